package tests

import (
	"encoding/binary"
	"hash/crc32"
	"math"
	"math/rand"
	"slices"
	"strings"
	"testing"

	"loop.example/g00678/impl"
)

var allKinds = []int64{impl.MlPing, impl.MlAck, impl.MlAsk, impl.MlSync, impl.MlTell}

// mailRule is what a kind of mail may have, written out.
type mailRule struct {
	about string // "no", "node" or "third": neither From nor To
	forMe bool
	most  int
}

var mailRules = map[int64]mailRule{
	1: {"no", true, 3},
	2: {"node", true, 3},
	3: {"third", false, 3},
	4: {"no", false, 6},
	5: {"no", false, 6},
}

func between(n int64, least int64, most int64) bool {
	return n >= least && n <= most
}

// rightByRule asks the rules whether all but the Facts is right, and for how many
// of these there is room.
func rightByRule(m impl.Mail) (bool, int) {
	rule, there := mailRules[m.Kind]
	if !there || !between(m.From, 1, 6) || !between(m.To, 1, 6) || m.From == m.To || !between(m.Num, 0, lastTime) {
		return false, 0
	}
	if m.For != 0 && !(rule.forMe && between(m.For, 1, 6)) {
		return false, 0
	}
	switch rule.about {
	case "no":
		return m.About == 0, rule.most
	case "node":
		return between(m.About, 1, 6), rule.most
	}
	return between(m.About, 1, 6) && m.About != m.From && m.About != m.To, rule.most
}

// plainMail is a right one of that kind, without Facts.
func plainMail(kind int64) impl.Mail {
	m := impl.Mail{Kind: kind, From: 2, To: 5, Num: 9}
	if kind == impl.MlAck || kind == impl.MlAsk {
		m.About = 4
	}
	return m
}

func withFacts(m impl.Mail, v []impl.Fact) impl.Mail {
	m.Facts = v
	return m
}

func sameMail(a impl.Mail, b impl.Mail) bool {
	facts := slices.Equal(a.Facts, b.Facts)
	a.Facts, b.Facts = nil, nil
	return facts && a.Kind == b.Kind && a.From == b.From && a.To == b.To && a.Num == b.Num && a.About == b.About && a.For == b.For
}

func numsOf(m impl.Mail) []int64 {
	nums := []int64{m.Kind, m.From, m.To, m.Num, m.About, m.For, int64(len(m.Facts))}
	for _, f := range m.Facts {
		nums = append(nums, f.Node, f.Inc, f.Status)
	}
	return nums
}

func bodyOf(nums ...int64) string {
	var b []byte
	for _, n := range nums {
		b = binary.AppendVarint(b, n)
	}
	return string(b)
}

// sealedBy seals texts of any length.
func sealedBy(body string) string {
	return string(binary.LittleEndian.AppendUint32([]byte(body), crc32.ChecksumIEEE([]byte(body))))
}

func wantMail(t *testing.T, what string, text string, want impl.MailOut) {
	t.Helper()
	if got := impl.MailRead(text); !sameMail(got.Mail, want.Mail) || got.Code != want.Code {
		t.Errorf("%s: MailRead of %d bytes %.60q: got %+v, want %+v", what, len(text), text, got, want)
	}
}

func refusedMail(t *testing.T, what string, text string, code int64) {
	t.Helper()
	wantMail(t, what, text, impl.MailOut{Code: code})
}

// wantRight holds all three functions against whether the mail is right.
func wantRight(t *testing.T, what string, m impl.Mail, right bool) {
	t.Helper()
	m.Facts = roomy(m.Facts)
	was := slices.Clone(m.Facts[:cap(m.Facts)])
	if got := impl.MailRight(m); got != right {
		t.Errorf("%s: MailRight of %+v: got %v", what, m, got)
	}
	written := sealedBy(bodyOf(numsOf(m)...))
	got := impl.MailBytes(m)
	if right {
		if got != written {
			t.Errorf("%s: MailBytes of %+v: got %q, want %q", what, m, got, written)
		}
		wantMail(t, what, written, impl.MailOut{Mail: m})
	} else {
		if got != "" {
			t.Errorf("%s: MailBytes of the wrong %+v: got %q", what, m, got)
		}
		if len(written) <= impl.MaxBytes {
			refusedMail(t, what, written, impl.ErrSyntax)
		}
	}
	if !slices.Equal(m.Facts[:cap(m.Facts)], was) {
		t.Errorf("%s: the Facts that were handed in were changed from %+v to %+v", what, was, m.Facts[:cap(m.Facts)])
	}
}

func someMail(r *rand.Rand) impl.Mail {
	nodes := r.Perm(impl.MaxNodes)
	m := impl.Mail{Kind: allKinds[r.Intn(len(allKinds))], From: int64(nodes[0]) + 1, To: int64(nodes[1]) + 1}
	m.Num = []int64{0, 1, 63, 64, 8191, 8192, lastTime - 1, lastTime, r.Int63n(lastTime)}[r.Intn(9)]
	rule := mailRules[m.Kind]
	switch rule.about {
	case "node":
		m.About = 1 + r.Int63n(impl.MaxNodes)
	case "third":
		m.About = int64(nodes[2]) + 1
	}
	if rule.forMe {
		m.For = r.Int63n(impl.MaxNodes + 1)
	}
	m.Facts = someRanks(r).view()
	m.Facts = m.Facts[:min(len(m.Facts), rule.most)]
	return m
}

func TestMailKinds(t *testing.T) {
	if !slices.Equal(allKinds, []int64{1, 2, 3, 4, 5}) {
		t.Errorf("the kinds: got %v", allKinds)
	}
	for _, kind := range allKinds {
		wantRight(t, "a kind", plainMail(kind), true)
	}
	for _, kind := range []int64{math.MinInt64, -1, 0, 6, 7, 257, 1<<32 + 1, math.MaxInt64} {
		for _, of := range allKinds {
			m := plainMail(of)
			m.Kind = kind
			wantRight(t, "no kind", m, false)
		}
	}
	wantRight(t, "the zero mail", impl.Mail{}, false)
}

func TestMailNodes(t *testing.T) {
	for _, kind := range allKinds {
		for from := int64(-1); from <= 8; from++ {
			for to := int64(-1); to <= 8; to++ {
				m := plainMail(kind)
				m.From, m.To = from, to
				if kind == impl.MlAsk {
					// One that is neither: of three there is always one.
					for m.About = 1; m.About == from || m.About == to; m.About++ {
					}
				}
				wantRight(t, "From and To", m, between(from, 1, 6) && between(to, 1, 6) && from != to)
			}
		}
		for _, wrong := range []int64{math.MinInt64, 258, math.MaxInt64} {
			m := plainMail(kind)
			m.From = wrong
			wantRight(t, "From", m, false)
			m = plainMail(kind)
			m.To = wrong
			wantRight(t, "To", m, false)
		}
	}
}

func TestMailNum(t *testing.T) {
	for _, kind := range allKinds {
		m := plainMail(kind)
		for _, m.Num = range []int64{0, 1, 63, 64, 8191, 8192, lastTime - 1, lastTime} {
			wantRight(t, "Num", m, true)
		}
		for _, m.Num = range []int64{math.MinInt64, -1, lastTime + 1, math.MaxInt64} {
			wantRight(t, "Num", m, false)
		}
	}
}

func TestMailAbout(t *testing.T) {
	abouts := []int64{math.MinInt64, -1, 0, 1, 2, 3, 4, 5, 6, 7, 257, math.MaxInt64}
	right := map[int64][]int64{
		impl.MlPing: {0},
		impl.MlAck:  {1, 2, 3, 4, 5, 6},
		impl.MlAsk:  {1, 3, 4, 6}, // from 2, to 5
		impl.MlSync: {0},
		impl.MlTell: {0},
	}
	for _, kind := range allKinds {
		m := plainMail(kind)
		for _, m.About = range abouts {
			wantRight(t, "About", m, slices.Contains(right[kind], m.About))
		}
	}
}

func TestMailFor(t *testing.T) {
	fors := []int64{math.MinInt64, -1, 0, 1, 2, 3, 4, 5, 6, 7, 257, math.MaxInt64}
	for _, kind := range allKinds {
		m := plainMail(kind)
		for _, m.For = range fors {
			right := m.For == 0
			if kind == impl.MlPing || kind == impl.MlAck {
				right = between(m.For, 0, 6)
			}
			wantRight(t, "For", m, right)
		}
	}
}

func TestMailFacts(t *testing.T) {
	full := ranks{1, 5, 9, 10, 14, 15}.view()
	most := map[int64]int{impl.MlPing: 3, impl.MlAck: 3, impl.MlAsk: 3, impl.MlSync: 6, impl.MlTell: 6}
	for _, kind := range allKinds {
		m := plainMail(kind)
		for many := range len(full) + 1 {
			wantRight(t, "the first Facts", withFacts(m, full[:many]), many <= most[kind])
			wantRight(t, "the last Facts", withFacts(m, full[len(full)-many:]), many <= most[kind])
		}
		wantRight(t, "an empty list of Facts", withFacts(m, []impl.Fact{}), true)
		for node := int64(1); node <= impl.MaxNodes; node++ {
			for _, f := range factsOf(node) {
				wantRight(t, "one Fact", withFacts(m, []impl.Fact{f}), true)
			}
		}
		for _, f := range wrongFacts() {
			wantRight(t, "a wrong Fact", withFacts(m, []impl.Fact{f}), false)
		}
		for _, views := range []map[string][]impl.Fact{wrongViews(), longViews()} {
			for what, v := range views {
				wantRight(t, what, withFacts(m, v), false)
			}
		}
		for i := range 3 {
			for _, f := range wrongFacts() {
				v := slices.Clone(full[:3])
				v[i] = f
				wantRight(t, "a wrong Fact among right ones", withFacts(m, v), false)
			}
		}
	}
}

// All that is near the edges, one thing beside the other.
func TestMailRightByRule(t *testing.T) {
	facts := [][]impl.Fact{nil, ranks{0, 3, 0, 4, 0, 8}.view(), ranks{1, 2, 3, 4}.view(), ranks{1, 2, 3, 4, 5, 6}.view()}
	for kind := int64(0); kind <= 6; kind++ {
		for from := int64(0); from <= 7; from++ {
			for to := int64(0); to <= 7; to++ {
				for about := int64(-1); about <= 7; about++ {
					for forWhom := int64(-1); forWhom <= 7; forWhom++ {
						for _, num := range []int64{-1, 0, lastTime, lastTime + 1} {
							m := impl.Mail{Kind: kind, From: from, To: to, Num: num, About: about, For: forWhom}
							head, most := rightByRule(m)
							for _, m.Facts = range facts {
								if want := head && len(m.Facts) <= most; impl.MailRight(m) != want {
									t.Fatalf("MailRight of %+v: got %v", m, !want)
								}
							}
						}
					}
				}
			}
		}
	}
}

// The bytes of some mails, written out one by one.
func TestMailBytesWritten(t *testing.T) {
	one := impl.Fact{Node: 1, Inc: 0, Status: impl.StHere}
	two := impl.Fact{Node: 2, Inc: 64, Status: impl.StDoubt}
	six := impl.Fact{Node: 6, Inc: lastTime, Status: impl.StGone}
	for _, c := range []struct {
		mail impl.Mail
		body string
	}{
		{impl.Mail{Kind: impl.MlPing, From: 1, To: 2}, "\x02\x02\x04\x00\x00\x00\x00"},
		{impl.Mail{Kind: impl.MlPing, From: 6, To: 1, Num: lastTime, For: 6}, "\x02\x0c\x02\x80\x89\x7a\x00\x0c\x00"},
		{impl.Mail{Kind: impl.MlAck, From: 1, To: 6, Num: 63, About: 1, For: 3, Facts: []impl.Fact{two}}, "\x04\x02\x0c\x7e\x02\x06\x02\x04\x80\x01\x04"},
		{impl.Mail{Kind: impl.MlAsk, From: 2, To: 3, Num: 64, About: 1}, "\x06\x04\x06\x80\x01\x02\x00\x00"},
		{impl.Mail{Kind: impl.MlSync, From: 5, To: 4, Num: 1, Facts: []impl.Fact{one, two, six}}, "\x08\x0a\x08\x02\x00\x00\x06\x02\x00\x02\x04\x80\x01\x04\x0c\x80\x89\x7a\x06"},
		{impl.Mail{Kind: impl.MlTell, From: 3, To: 4, Num: 8192, Facts: []impl.Fact{six}}, "\x0a\x06\x08\x80\x80\x01\x00\x00\x02\x0c\x80\x89\x7a\x06"},
	} {
		want := impl.Seal(c.body)
		if got := impl.MailBytes(c.mail); got != want {
			t.Errorf("MailBytes of %+v: got %q, want %q", c.mail, got, want)
		}
		wantMail(t, "written out", want, impl.MailOut{Mail: c.mail})
	}
}

// Promise 6, of what is whole.
func TestMailComesBack(t *testing.T) {
	r := rand.New(rand.NewSource(8))
	seen := map[int64]int{}
	for range 5000 {
		m := someMail(r)
		seen[m.Kind]++
		wantRight(t, "some mail", m, true)
		b := impl.MailBytes(m)
		if b == "" {
			t.Fatalf("MailBytes of %+v: got nothing", m)
		}
		wantMail(t, "some mail", b, impl.MailOut{Mail: m})
	}
	if len(seen) != len(allKinds) {
		t.Errorf("not each kind was tried: %v", seen)
	}
}

// Promise 6, of what is turned.
func TestMailTurnedIsRefused(t *testing.T) {
	r := rand.New(rand.NewSource(9))
	var mails []impl.Mail
	for _, kind := range allKinds {
		mails = append(mails, plainMail(kind))
	}
	mails = append(mails, withFacts(plainMail(impl.MlTell), ranks{13, 14, 15, 13, 14, 15}.view()))
	for range 20 {
		mails = append(mails, someMail(r))
	}
	for _, m := range mails {
		b := []byte(impl.MailBytes(m))
		if len(b) == 0 {
			t.Fatalf("MailBytes of %+v: got nothing", m)
		}
		for at := range b {
			for turn := 1; turn < 256; turn++ {
				b[at] ^= byte(turn)
				refusedMail(t, "a byte turned", string(b), impl.ErrSum)
				b[at] ^= byte(turn)
			}
		}
	}
}

func TestMailReadEnds(t *testing.T) {
	r := rand.New(rand.NewSource(10))
	for range 60 {
		m := someMail(r)
		sealed := impl.MailBytes(m)
		for cut := range len(sealed) {
			code := int64(impl.ErrSum)
			if cut < 4 {
				code = impl.ErrShort
			}
			refusedMail(t, "cut", sealed[:cut], code)
		}
		body := bodyOf(numsOf(m)...)
		for cut := range len(body) {
			refusedMail(t, "cut and sealed", sealedBy(body[:cut]), impl.ErrSyntax)
		}
		for _, more := range []string{"\x00", "\x02", "\x80", "\x02\x00\x02", "\x80\x00", sealed} {
			refusedMail(t, "more behind the seal", sealed+more, impl.ErrSum)
			refusedMail(t, "more ahead", more+sealed, impl.ErrSum)
			refusedMail(t, "more, sealed", sealedBy(body+more), impl.ErrSyntax)
		}
		refusedMail(t, "sealed twice", sealedBy(sealed), impl.ErrSyntax)
		refusedMail(t, "a Fact behind the last", sealedBy(body+bodyOf(6, 1, 1)), impl.ErrSyntax)
	}
}

func TestMailReadFaults(t *testing.T) {
	for size := range 4 {
		refusedMail(t, "too short", strings.Repeat("\x00", size), impl.ErrShort)
	}
	refusedMail(t, "no seal", "\x00\x00\x00\x01", impl.ErrSum)
	refusedMail(t, "an empty text, sealed", "\x00\x00\x00\x00", impl.ErrSyntax)
	refusedMail(t, "no seal", strings.Repeat("a", 100), impl.ErrSum)
	refusedMail(t, "no seal, MaxBytes", someText(impl.MaxBytes), impl.ErrSum)
	for _, body := range []string{"\x00", "\x02", "\x80", "abc", "\xff\xff\xff\xff", strings.Repeat("\xff", 12), strings.Repeat("\x00", 7), strings.Repeat("\x02", 10)} {
		refusedMail(t, "not a mail's", sealedBy(body), impl.ErrSyntax)
	}
	for _, b := range []string{"\x00", "\x02", "\x80", "\xff"} {
		refusedMail(t, "MaxBytes", sealedBy(strings.Repeat(b, impl.MaxBytes-4)), impl.ErrSyntax)
		refusedMail(t, "one more than MaxBytes, sealed", sealedBy(strings.Repeat(b, impl.MaxBytes-3)), impl.ErrSize)
		refusedMail(t, "one more than MaxBytes", strings.Repeat(b, impl.MaxBytes+1), impl.ErrSize)
	}
	// As many Facts as it says there are, and far too many.
	many := []int64{impl.MlTell, 1, 2, 3, 0, 0, 2600}
	for range 2600 {
		many = append(many, 1, 0, impl.StHere)
	}
	refusedMail(t, "2600 Facts", sealedBy(bodyOf(many...)), impl.ErrSyntax)
}

// A number that is written longer than it needs to be is no bytes of a mail,
// wherever it stands.
func TestMailReadLongNumbers(t *testing.T) {
	for _, kind := range allKinds {
		nums := numsOf(withFacts(plainMail(kind), ranks{4, 0, 15, 0, 0, 8}.view()))
		refused := 0
		for i, n := range nums {
			whole := bodyOf(n)
			long := whole[:len(whole)-1] + string([]byte{whole[len(whole)-1] | 128, 0})
			longer := whole[:len(whole)-1] + string([]byte{whole[len(whole)-1] | 128, 128, 0})
			for _, number := range []string{long, longer} {
				body := bodyOf(nums[:i]...) + number + bodyOf(nums[i+1:]...)
				refusedMail(t, "a number written longer", sealedBy(body), impl.ErrSyntax)
				refused++
			}
		}
		if refused != 2*16 {
			t.Errorf("%d numbers were tried", refused)
		}
		wantMail(t, "written as it must be", sealedBy(bodyOf(nums...)), impl.MailOut{Mail: withFacts(plainMail(kind), ranks{4, 0, 15, 0, 0, 8}.view())})
	}
}

func TestMailReadCounts(t *testing.T) {
	full := ranks{1, 5, 9, 10, 14, 15}.view()
	for _, kind := range allKinds {
		for many := range len(full) + 1 {
			nums := numsOf(withFacts(plainMail(kind), full[:many]))
			for _, count := range []int64{math.MinInt64, -6, -1, 0, 1, 2, 3, 4, 5, 6, 7, 256, 1 << 32, math.MaxInt64 / 3, math.MaxInt64} {
				if count != int64(many) {
					nums[6] = count
					refusedMail(t, "a count that is not so many", sealedBy(bodyOf(nums...)), impl.ErrSyntax)
				}
			}
		}
		// A Fact of which one or two numbers are not there.
		nums := numsOf(withFacts(plainMail(kind), full[:2]))
		for count := range int64(4) {
			nums[6] = count
			refusedMail(t, "two numbers of a Fact", sealedBy(bodyOf(nums[:len(nums)-1]...)), impl.ErrSyntax)
			refusedMail(t, "one number of a Fact", sealedBy(bodyOf(nums[:len(nums)-2]...)), impl.ErrSyntax)
		}
	}
}

// What MailRead takes is what MailBytes wrote, and no other bytes.
func TestMailHasOneWriting(t *testing.T) {
	r := rand.New(rand.NewSource(11))
	taken := 0
	for range 40000 {
		body := []byte(bodyOf(numsOf(someMail(r))...))
		for range 1 + r.Intn(2) {
			body[r.Intn(len(body))] = byte(r.Intn(16))
		}
		text := sealedBy(string(body))
		got := impl.MailRead(text)
		if got.Code != impl.OK {
			refusedMail(t, "bytes changed and sealed", text, impl.ErrSyntax)
			continue
		}
		taken++
		if head, most := rightByRule(got.Mail); !head || len(got.Mail.Facts) > most || !impl.ViewRight(got.Mail.Facts) || impl.MailBytes(got.Mail) != text {
			t.Fatalf("MailRead of %q: got %+v, whose bytes are %q", text, got, impl.MailBytes(got.Mail))
		}
	}
	if taken < 1000 || taken > 39000 {
		t.Errorf("%d of 40000 were taken: too few or too many to tell", taken)
	}
}

func TestMailAnswersAreNewMemory(t *testing.T) {
	m := withFacts(plainMail(impl.MlSync), ranks{1, 2, 3, 4, 5, 6}.view())
	b := impl.MailBytes(m)
	was := strings.Clone(b)
	first, second := impl.MailRead(b).Mail, impl.MailRead(b).Mail
	if listsShare(first.Facts, second.Facts) || listsShare(first.Facts, m.Facts) {
		t.Errorf("the Facts of two answers share memory")
	}
	for i := range first.Facts {
		first.Facts[i] = impl.Fact{}
	}
	for i := range m.Facts {
		m.Facts[i].Inc = 77
	}
	if !slices.Equal(second.Facts, ranks{1, 2, 3, 4, 5, 6}.view()) || b != was {
		t.Errorf("an answer was changed with another one: %+v, %q", second, b)
	}
	if again := impl.MailRead(b).Mail; !sameMail(again, second) {
		t.Errorf("MailRead of the same bytes: got %+v, then %+v", second, again)
	}
}
