package tests

import (
	"fmt"
	"math"
	"math/rand"
	"slices"
	"strconv"
	"strings"
	"testing"

	"loop.example/g00678/impl"
)

// brief is what is told of a thing when a test fails, and no more than a few lines.
func brief(thing any) string {
	return fmt.Sprintf("%.400s", fmt.Sprintf("%+v", thing))
}

func sameRecsOut(a impl.RecsOut, b impl.RecsOut) bool {
	return slices.Equal(a.Recs, b.Recs) && a.At == b.At && a.Code == b.Code
}

// wantRec holds what is told of one Rec against whether it is right.
func wantRec(t *testing.T, what string, r impl.Rec, right bool) {
	t.Helper()
	if got := impl.RecRight(r); got != right {
		t.Errorf("%s: RecRight of %+v: got %v", what, r, got)
	}
	text := ""
	if right {
		text = recBytesByRule(r)
	}
	if got := impl.RecBytes(r); got != text {
		t.Errorf("%s: RecBytes of %+v: got %q, want %q", what, r, got, text)
	}
}

// wantRecsBytes holds the bytes of a list against what is wanted, and looks that
// the list and what stands behind it are as they were.
func wantRecsBytes(t *testing.T, what string, l []impl.Rec, want string) {
	t.Helper()
	arg := roomyRecs(l)
	was := slices.Clone(arg[:cap(arg)])
	if got := impl.RecsBytes(arg); got != want {
		t.Errorf("%s: RecsBytes of %d, %s: got %d bytes %.200q, want %d bytes %.200q", what, len(l), brief(l), len(got), got, len(want), want)
	}
	if !slices.Equal(arg[:cap(arg)], was) {
		t.Errorf("%s: %s was changed to %s", what, brief(was), brief(arg[:cap(arg)]))
	}
}

// wantRecs holds what is read of a text against what is wanted.
func wantRecs(t *testing.T, what string, text string, want impl.RecsOut) {
	t.Helper()
	was := strings.Clone(text)
	got := impl.RecsRead(text)
	if !sameRecsOut(got, want) {
		t.Errorf("%s: RecsRead of %d bytes %.200q: got At %d, Code %d, %d Recs %s; want At %d, Code %d, %d Recs %s", what, len(text), text, got.At, got.Code, len(got.Recs), brief(got.Recs), want.At, want.Code, len(want.Recs), brief(want.Recs))
	}
	if text != was {
		t.Errorf("%s: RecsRead changed %.200q to %.200q", what, was, text)
	}
	if listsShare(got.Recs, impl.RecsRead(text).Recs) {
		t.Errorf("%s: RecsRead of %.200q: memory is shared", what, text)
	}
}

// wantComesBack: right Recs, written as they must be, come back.
func wantComesBack(t *testing.T, what string, l []impl.Rec) {
	t.Helper()
	wantRecsBytes(t, what, l, recsBytesByRule(l))
	wantRecs(t, what, impl.RecsBytes(l), impl.RecsOut{Recs: l})
}

func refusedRecs(t *testing.T, what string, text string, at int64, code int64) {
	t.Helper()
	wantRecs(t, what, text, impl.RecsOut{At: at, Code: code})
}

func TestRecConstants(t *testing.T) {
	got := []int64{impl.RcStart, impl.RcCrash, impl.RcSend, impl.RcGot, impl.RcView, impl.RcMiss, impl.MaxRecs}
	if want := []int64{1, 2, 3, 4, 5, 6, 400}; !slices.Equal(got, want) {
		t.Errorf("the kinds and MaxRecs: got %v, want %v", got, want)
	}
}

// The bounds of each kind, written out one by one: each number at them, and one
// below and above.
func TestRecRightWritten(t *testing.T) {
	times, nodes, status, none := []int64{0, 1, 999999, 1000000}, []int64{1, 2, 5, 6}, []int64{1, 2, 3}, []int64{0}
	for _, c := range []struct {
		what    string
		kind    int64
		a, b, c []int64
	}{
		{"a start", impl.RcStart, times, none, none},
		{"a crash", impl.RcCrash, none, none, none},
		{"one sent", impl.RcSend, times, nodes, none},
		{"one got", impl.RcGot, times, nodes, none},
		{"a view", impl.RcView, nodes, times, status},
		{"a miss", impl.RcMiss, nodes, none, none},
	} {
		may := [6][]int64{times, nodes, {c.kind}, c.a, c.b, c.c}
		var nums [6]int64
		var each func(place int)
		each = func(place int) {
			if place == len(nums) {
				wantRec(t, c.what, rec(nums[0], nums[1], nums[2], nums[3], nums[4], nums[5]), true)
				return
			}
			for _, nums[place] = range may[place] {
				each(place + 1)
			}
		}
		each(0)
		for place, l := range may {
			if place == 2 {
				continue // the kinds beside one are others
			}
			for _, wrong := range []int64{l[0] - 1, l[len(l)-1] + 1, math.MinInt64, math.MaxInt64, 1<<32 + l[0], 256 + lastTime + l[0]} {
				nums = [6]int64{0, 1, c.kind, c.a[0], c.b[0], c.c[0]}
				nums[place] = wrong
				wantRec(t, c.what+", the number at "+strconv.Itoa(place), rec(nums[0], nums[1], nums[2], nums[3], nums[4], nums[5]), false)
			}
		}
	}
}

func TestRecKinds(t *testing.T) {
	for _, kind := range []int64{math.MinInt64, -1, 0, 7, 8, 255, 256, 257, 262, 1<<32 + 1, math.MaxInt64} {
		wantRec(t, "no kind", rec(0, 1, kind, 0, 0, 0), false)
		for _, r := range oneOfEach() {
			r.Kind = kind
			wantRec(t, "no kind", r, false)
		}
	}
	wantRec(t, "the zero one", impl.Rec{}, false)
	wantRec(t, "sent to itself", rec(1, 3, impl.RcSend, 4, 3, 0), true)
	wantRec(t, "got from itself", rec(1, 3, impl.RcGot, 4, 3, 0), true)
	wantRec(t, "a view of itself", rec(1, 3, impl.RcView, 3, 0, impl.StGone), true)
	wantRec(t, "a miss of itself", rec(1, 3, impl.RcMiss, 3, 0, 0), true)
}

// All that is near the edges, one thing beside the other.
func TestRecRightByRule(t *testing.T) {
	around := []int64{-1, 0, 1, 3, 4, 6, 7, lastTime, lastTime + 1}
	for kind := int64(-1); kind <= 8; kind++ {
		for _, at := range around {
			for _, node := range around {
				for _, a := range around {
					for _, b := range around {
						for _, c := range around {
							r := rec(at, node, kind, a, b, c)
							if got, want := impl.RecRight(r), recByRule(r); got != want {
								t.Fatalf("RecRight of %+v: got %v", r, got)
							}
						}
					}
				}
			}
		}
	}
}

// The bytes of some Recs, written out one by one.
func TestRecBytesWritten(t *testing.T) {
	for _, c := range []struct {
		r    impl.Rec
		size string
		body string
	}{
		{rec(0, 1, impl.RcStart, 0, 0, 0), "\x14", "\x00\x02\x02\x00\x00\x00"},
		{rec(63, 6, impl.RcStart, lastTime, 0, 0), "\x18", "\x7e\x0c\x02\x80\x89\x7a\x00\x00"},
		{rec(64, 2, impl.RcCrash, 0, 0, 0), "\x16", "\x80\x01\x04\x04\x00\x00\x00"},
		{rec(lastTime, 3, impl.RcSend, 8192, 6, 0), "\x1c", "\x80\x89\x7a\x06\x06\x80\x80\x01\x0c\x00"},
		{rec(1, 4, impl.RcGot, 64, 1, 0), "\x16", "\x02\x08\x08\x80\x01\x02\x00"},
		{rec(8191, 5, impl.RcView, 6, lastTime, impl.StGone), "\x1a", "\xfe\x7f\x0a\x0a\x0c\x80\x89\x7a\x06"},
		{rec(2, 1, impl.RcMiss, 2, 0, 0), "\x14", "\x04\x02\x0c\x04\x00\x00"},
	} {
		want := c.size + impl.Seal(c.body)
		if got := impl.RecBytes(c.r); got != want {
			t.Errorf("RecBytes of %+v: got %q, want %q", c.r, got, want)
		}
		wantRec(t, "written", c.r, true)
		wantRecs(t, "written", want, impl.RecsOut{Recs: []impl.Rec{c.r}})
	}
}

func TestRecsBytes(t *testing.T) {
	r := rand.New(rand.NewSource(10))
	wantComesBack(t, "none", nil)
	wantComesBack(t, "an empty list", []impl.Rec{})
	wantComesBack(t, "one of each kind", oneOfEach())
	wantComesBack(t, "the same one twice", slices.Repeat([]impl.Rec{plainRec(impl.RcView)}, 2))
	for _, many := range []int{1, 2, 399, 400} {
		wantComesBack(t, "so many", someRecs(r, many))
	}
	for _, many := range []int{401, 402, 800, 5000} {
		wantRecsBytes(t, "too many", someRecs(r, many), "")
		wantRecsBytes(t, "too many zero ones", make([]impl.Rec, many), "")
	}
	for _, wrong := range []impl.Rec{{}, rec(1, 1, 7, 0, 0, 0), rec(-1, 1, impl.RcCrash, 0, 0, 0), rec(1, 7, impl.RcCrash, 0, 0, 0), rec(1, 1, impl.RcCrash, 1, 0, 0), rec(1, 1, impl.RcView, 1, 1, 4)} {
		wantRecsBytes(t, "a wrong one alone", []impl.Rec{wrong}, "")
		for _, many := range []int{2, 6, 400} {
			for _, place := range []int{0, 1, many / 2, many - 1} {
				l := someRecs(r, many)
				l[place] = wrong
				wantRecsBytes(t, "a wrong one among right ones", l, "")
			}
		}
	}
}

// As many as may be of those that have the most bytes are not too many bytes.
func TestRecsBytesLongest(t *testing.T) {
	for _, x := range longestRecs(3) {
		if got := impl.RecBytes(x); len(got) != 15 {
			t.Errorf("RecBytes of %+v: got %d bytes", x, len(got))
		}
	}
	if got := impl.RecsBytes(longestRecs(400)); len(got) != 6000 {
		t.Errorf("RecsBytes of the 400 that have the most bytes: got %d bytes", len(got))
	}
	wantComesBack(t, "the most bytes that there may be", longestRecs(400))
}

// Promise 12, of what is whole.
func TestRecsComeBack(t *testing.T) {
	r := rand.New(rand.NewSource(12))
	seen := map[int64]int{}
	for range 1500 {
		l := someRecs(r, r.Intn(30))
		for _, x := range l {
			seen[x.Kind]++
			wantRec(t, "some Rec", x, true)
		}
		wantComesBack(t, "some Recs", l)
	}
	for range 20 {
		wantComesBack(t, "many Recs", someRecs(r, 350+r.Intn(51)))
	}
	if len(seen) != 6 {
		t.Errorf("not each kind was tried: %v", seen)
	}
}

// wantCut cuts a text of right Recs at one place: what is whole ahead of it is
// read of the bytes up to At, and is what it was.
func wantCut(t *testing.T, l []impl.Rec, ends []int, text string, cut int) {
	t.Helper()
	whole, there := slices.BinarySearch(ends, cut)
	if there {
		wantRecs(t, "cut between two", text[:cut], impl.RecsOut{Recs: l[:whole]})
		return
	}
	whole--
	refusedRecs(t, "cut", text[:cut], int64(ends[whole]), impl.ErrShort)
	wantRecs(t, "ahead of the cut", text[:impl.RecsRead(text[:cut]).At], impl.RecsOut{Recs: l[:whole]})
}

// Promise 12, of what is cut.
func TestRecsCut(t *testing.T) {
	r := rand.New(rand.NewSource(13))
	lists := [][]impl.Rec{oneOfEach(), longestRecs(9), someRecs(r, 400), longestRecs(400)}
	for many := range 40 {
		lists = append(lists, someRecs(r, many))
	}
	for _, l := range lists {
		text, ends := "", []int{0}
		for _, x := range l {
			text += impl.RecBytes(x)
			ends = append(ends, len(text))
		}
		if len(l) > 0 && len(text) < 11*len(l) {
			t.Fatalf("RecBytes of %d Recs: got %d bytes", len(l), len(text))
		}
		for cut := range len(text) + 1 {
			wantCut(t, l, ends, text, cut)
		}
	}
}

// Each byte of a text is turned to each other one.
func TestRecsEachByteTurned(t *testing.T) {
	for _, l := range [][]impl.Rec{oneOfEach(), longestRecs(3), {plainRec(impl.RcStart), plainRec(impl.RcStart), plainRec(impl.RcStart)}} {
		begin := 0
		for i, x := range l {
			b := []byte(impl.RecsBytes(l))
			size := len(impl.RecBytes(x))
			if size < 11 {
				t.Fatalf("RecBytes of %+v: got %d bytes", x, size)
			}
			for at := begin; at < begin+size; at++ {
				was := b[at]
				for turn := 1; turn < 256; turn++ {
					b[at] = was ^ byte(turn)
					want := recsReadByRule(string(b))
					if want.Code == impl.OK || want.At != int64(begin) || at > begin && want.Code != impl.ErrSum {
						t.Fatalf("a byte of Rec %d turned: the rule tells %+v", i, want)
					}
					wantRecs(t, "a byte turned", string(b), want)
				}
				b[at] = was
			}
			begin += size
		}
	}
}

// sealedNums is the Seal of some numbers, with its length ahead.
func sealedNums(nums ...int64) string {
	return lengthAhead(sealedBy(bodyOf(nums...)))
}

// wrongParts can stand nowhere in a text, each with the code that is told, if
// there is nothing behind it.
func wrongParts() map[string]struct {
	text string
	code int64
} {
	type part = struct {
		text string
		code int64
	}
	nines := strings.Repeat("\xff", 9)
	whole := recBytesByRule(plainRec(impl.RcView))
	body := bodyOf(70, 2, impl.RcView, 5, 3, 2)
	l := map[string]part{
		"a length that is cut":                {"\x80", impl.ErrShort},
		"a length that is cut, long":          {nines, impl.ErrShort},
		"a length without its text":           {"\x02", impl.ErrShort},
		"a text with a byte too few":          {whole[:len(whole)-1], impl.ErrShort},
		"a length one too great":              {bodyOf(int64(len(whole))) + whole[1:], impl.ErrShort},
		"the greatest length":                 {bodyOf(8000), impl.ErrShort},
		"a length above the greatest":         {bodyOf(8001), impl.ErrSyntax},
		"a length far above the greatest":     {bodyOf(math.MaxInt64), impl.ErrSyntax},
		"a length below 0":                    {bodyOf(-1), impl.ErrSyntax},
		"a length far below 0":                {bodyOf(math.MinInt64), impl.ErrSyntax},
		"a length below 0, its text behind":   {bodyOf(-15) + whole[1:], impl.ErrSyntax},
		"a length with a byte too many":       {string([]byte{whole[0] | 128, 0}) + whole[1:], impl.ErrSyntax},
		"a length with two bytes too many":    {string([]byte{whole[0] | 128, 128, 0}) + whole[1:], impl.ErrSyntax},
		"a length of 0 with a byte too many":  {"\x80\x00", impl.ErrSyntax},
		"a length whose tenth byte is 2":      {nines + "\x02", impl.ErrSyntax},
		"a length of ten bytes and no end":    {nines + "\xff", impl.ErrSyntax},
		"a length of more than ten bytes":     {nines + "\x80\x01", impl.ErrSyntax},
		"no text":                             {"\x00", impl.ErrSum},
		"a text of one byte":                  {lengthAhead("\x00"), impl.ErrSum},
		"a text of three bytes":               {lengthAhead("\x00\x00\x00"), impl.ErrSum},
		"a text of four bytes that is none":   {lengthAhead("\x00\x00\x00\x01"), impl.ErrSum},
		"a text that is no Seal":              {lengthAhead("abcde"), impl.ErrSum},
		"a Rec without its sum":               {lengthAhead(body), impl.ErrSum},
		"a Rec whose sum is turned round":     {lengthAhead(body + sealedBy(body)[len(body)+2:] + sealedBy(body)[len(body):len(body)+2]), impl.ErrSum},
		"a wrong Rec and a wrong sum":         {lengthAhead(bodyOf(0, 0, 0, 0, 0, 0) + "abcd"), impl.ErrSum},
		"a length one too small":              {string([]byte{whole[0] - 2}) + whole[1:], impl.ErrSum},
		"a Seal of nothing":                   {lengthAhead(sealedBy("")), impl.ErrSyntax},
		"a Seal of words":                     {lengthAhead(sealedBy("a Rec")), impl.ErrSyntax},
		"a Seal of a Seal":                    {lengthAhead(sealedBy(sealedBy(body))), impl.ErrSyntax},
		"a Seal of the bytes of a Rec":        {lengthAhead(sealedBy(whole)), impl.ErrSyntax},
		"a Seal of a Rec and a byte more":     {lengthAhead(sealedBy(body + "\x00")), impl.ErrSyntax},
		"a Seal of a Rec and a cut number":    {lengthAhead(sealedBy(body + "\x80")), impl.ErrSyntax},
		"a Seal of a byte more and a Rec":     {lengthAhead(sealedBy("\x00" + body)), impl.ErrSyntax},
		"a Seal of a Rec, its last byte cut":  {lengthAhead(sealedBy(body[:len(body)-1])), impl.ErrSyntax},
		"a Seal of a Rec, its last num cut":   {lengthAhead(sealedBy(body[:len(body)-1] + "\x84")), impl.ErrSyntax},
		"a Seal of two Recs":                  {lengthAhead(sealedBy(body + body)), impl.ErrSyntax},
		"a Seal of many numbers":              {sealedNums(make([]int64, 2000)...), impl.ErrSyntax},
		"a Seal of the zero Rec":              {recBytesByRule(impl.Rec{}), impl.ErrSyntax},
		"a Seal of a mail":                    {lengthAhead(impl.MailBytes(plainMail(impl.MlPing))), impl.ErrSyntax},
		"a Seal of a Rec of no kind, 0":       {sealedNums(1, 1, 0, 0, 0, 0), impl.ErrSyntax},
		"a Seal of a Rec of no kind, 7":       {sealedNums(1, 1, 7, 0, 0, 0), impl.ErrSyntax},
		"a Seal of a Rec of no node":          {sealedNums(1, 7, 2, 0, 0, 0), impl.ErrSyntax},
		"a Seal of a Rec of no time":          {sealedNums(lastTime+1, 1, 2, 0, 0, 0), impl.ErrSyntax},
		"a Seal of a Rec of a time below 0":   {sealedNums(-1, 1, 2, 0, 0, 0), impl.ErrSyntax},
		"a Seal of a Rec of great numbers":    {sealedNums(1<<32, 1<<32+1, 1<<32+2, 1<<32, 1<<32, 1<<32), impl.ErrSyntax},
		"a Seal of a crash that says A":       {sealedNums(1, 1, 2, 1, 0, 0), impl.ErrSyntax},
		"a Seal of a crash that says B":       {sealedNums(1, 1, 2, 0, 1, 0), impl.ErrSyntax},
		"a Seal of a crash that says C":       {sealedNums(1, 1, 2, 0, 0, 1), impl.ErrSyntax},
		"a Seal of five numbers":              {sealedNums(1, 1, 2, 0, 0), impl.ErrSyntax},
		"a Seal of one number":                {sealedNums(1), impl.ErrSyntax},
		"a Seal of a Rec, its numbers behind": {sealedNums(2, 5, 70, 2, 3, 5), impl.ErrSyntax},
	}
	for kind := int64(1); kind <= 6; kind++ {
		x := plainRec(kind)
		for i, n := range []int64{x.At, x.Node, x.Kind, x.A, x.B, x.C} {
			nums := []int64{x.At, x.Node, x.Kind, x.A, x.B, x.C}
			long := bodyOf(n)
			long = long[:len(long)-1] + string([]byte{long[len(long)-1] | 128, 0})
			what := " of a Rec of kind " + strconv.FormatInt(kind, 10) + ", number " + strconv.Itoa(i)
			l["a Seal"+what+" written longer"] = part{lengthAhead(sealedBy(bodyOf(nums[:i]...) + long + bodyOf(nums[i+1:]...))), impl.ErrSyntax}
			l["a Seal"+what+" not there"] = part{sealedNums(slices.Delete(slices.Clone(nums), i, i+1)...), impl.ErrSyntax}
			nums[i] = -1
			l["a Seal"+what+" below 0"] = part{sealedNums(nums...), impl.ErrSyntax}
			nums[i] = lastTime + 1
			l["a Seal"+what+" above all"] = part{sealedNums(nums...), impl.ErrSyntax}
		}
	}
	return l
}

// What is wrong, alone, and behind others: At is where it begins.
func TestRecsReadFaults(t *testing.T) {
	r := rand.New(rand.NewSource(14))
	aheads := []string{"", recsBytesByRule(oneOfEach()), recsBytesByRule(longestRecs(2)), recsBytesByRule(someRecs(r, 399)), recsBytesByRule(someRecs(r, 400))}
	for what, part := range wrongParts() {
		for _, ahead := range aheads {
			if len(ahead)+len(part.text) > 8000 {
				continue
			}
			refusedRecs(t, what, ahead+part.text, int64(len(ahead)), part.code)
			if part.code == impl.ErrShort {
				continue // what is behind it may be taken for what it lacks
			}
			for _, behind := range []string{"\x00", "\xff", recBytesByRule(plainRec(impl.RcStart)), part.text} {
				if all := ahead + part.text + behind; len(all) <= 8000 {
					refusedRecs(t, what+", more behind", all, int64(len(ahead)), part.code)
				}
			}
		}
	}
	for _, many := range []int{0, 1, 8, 9, 10, 11, 300, 7999, 8000} {
		for _, b := range []string{"\x00", "\x01", "\x02", "\x08", "\x7f", "\x80", "\x81", "\xff"} {
			text := strings.Repeat(b, many)
			wantRecs(t, "the same byte again and again", text, recsReadByRule(text))
		}
	}
}

// Of two that are wrong the first one is told, whatever their codes.
func TestRecsReadFirstFault(t *testing.T) {
	start := recBytesByRule(plainRec(impl.RcStart))
	wrong := map[int64]string{impl.ErrSyntax: recBytesByRule(impl.Rec{}), impl.ErrSum: lengthAhead("abcde"), impl.ErrShort: "\x80"}
	for first, a := range wrong {
		if first == impl.ErrShort {
			continue
		}
		for second, b := range wrong {
			refusedRecs(t, "two wrong ones", a+b, 0, first)
			refusedRecs(t, "two wrong ones behind a right one", start+a+b, int64(len(start)), first)
			refusedRecs(t, "two wrong ones, a right one between", start+a+start+b, int64(len(start)), first)
			refusedRecs(t, "the second of them", start+start+b, int64(2*len(start)), second)
		}
	}
}

// How many may be read, and of how many bytes.
func TestRecsReadLimits(t *testing.T) {
	r := rand.New(rand.NewSource(15))
	for _, full := range [][]impl.Rec{someRecs(r, 400), longestRecs(400), slices.Repeat([]impl.Rec{rec(0, 1, impl.RcCrash, 0, 0, 0)}, 400)} {
		text := recsBytesByRule(full)
		at := int64(len(text))
		wantRecs(t, "MaxRecs", text, impl.RecsOut{Recs: full})
		for _, more := range oneOfEach() {
			refusedRecs(t, "one more than MaxRecs", text+recBytesByRule(more), at, impl.ErrFull)
		}
		refusedRecs(t, "two more", text+recsBytesByRule(full[:2]), at, impl.ErrFull)
		refusedRecs(t, "one more, and a wrong one", text+recBytesByRule(full[0])+"\x80", at, impl.ErrFull)
		refusedRecs(t, "one more that is cut", text+recBytesByRule(full[0])[:9], at, impl.ErrShort)
		refusedRecs(t, "one more whose length is cut", text+"\x80", at, impl.ErrShort)
		refusedRecs(t, "one more whose length is wrong", text+"\x01", at, impl.ErrSyntax)
		refusedRecs(t, "one more that is no Seal", text+"\x00", at, impl.ErrSum)
		refusedRecs(t, "one more that is not right", text+recBytesByRule(impl.Rec{}), at, impl.ErrSyntax)
		refusedRecs(t, "a wrong one ahead of MaxRecs", recBytesByRule(impl.Rec{})+text, 0, impl.ErrSyntax)
		if many := (8000 - len(text)) / 15; many > 0 {
			refusedRecs(t, "many more", text+recsBytesByRule(longestRecs(many)), at, impl.ErrFull)
		}
		fill := strings.Repeat("\x80", 8000-len(text))
		refusedRecs(t, "MaxBytes, behind MaxRecs", text+fill, at, impl.ErrSyntax)
		refusedRecs(t, "one more than MaxBytes, behind MaxRecs", text+fill+"\x80", 0, impl.ErrSize)
	}
	body := strings.Repeat("\x00", 7994)
	refusedRecs(t, "a Seal of MaxBytes in all", lengthAhead(sealedBy(body)), 0, impl.ErrSyntax)
	refusedRecs(t, "no Seal of MaxBytes in all", lengthAhead(body+"\x01\x01\x01\x01"), 0, impl.ErrSum)
	refusedRecs(t, "a Seal and its length of one more than MaxBytes", lengthAhead(sealedBy(body+"\x00")), 0, impl.ErrSize)
	refusedRecs(t, "right ones of more than MaxBytes", recsBytesByRule(longestRecs(534)), 0, impl.ErrSize)
	refusedRecs(t, "right ones of all but MaxBytes", recsBytesByRule(longestRecs(533)), 6000, impl.ErrFull)
	for _, many := range []int{8001, 8002, 20000, 1000000} {
		for _, b := range []string{"\x00", "\x80", "\xff", "a"} {
			refusedRecs(t, "more than MaxBytes", strings.Repeat(b, many), 0, impl.ErrSize)
		}
	}
}

// turnedBytes is a text of which some bytes or parts are others than they were.
func turnedBytes(r *rand.Rand, text string) string {
	at := r.Intn(len(text) + 1)
	to := min(len(text), at+r.Intn(20))
	switch r.Intn(6) {
	case 0:
		return text[:at]
	case 1:
		return text[at:]
	case 2:
		return text[:at] + text[to:]
	case 3:
		return text[:at] + string([]byte{byte(r.Intn(256))}) + text[at:]
	case 4:
		return text[:to] + text[at:]
	}
	return text[:at] + string([]byte{byte(r.Intn(256))}) + text[min(len(text), at+1):]
}

// What is read of texts that are turned here and there; each that is taken is the
// one text of its Recs.
func TestRecsReadTurned(t *testing.T) {
	r := rand.New(rand.NewSource(16))
	codes := map[int64]int{}
	for range 20000 {
		text := recsBytesByRule(someRecs(r, 1+r.Intn(6)))
		for range 1 + r.Intn(2) {
			text = turnedBytes(r, text)
		}
		wantRecs(t, "a turned text", text, recsReadByRule(text))
		got := impl.RecsRead(text)
		codes[got.Code]++
		if again := impl.RecsBytes(got.Recs); got.Code == impl.OK && again != text {
			t.Errorf("RecsRead took %q as %+v, whose bytes are %q", text, got, again)
		}
		if ahead := impl.RecsRead(text[:got.At]); ahead.Code != impl.OK || impl.RecsBytes(ahead.Recs) != text[:got.At] {
			t.Errorf("RecsRead of %q told At %d, up to which it reads %+v", text, got.At, ahead)
		}
	}
	for _, code := range []int64{impl.OK, impl.ErrSyntax, impl.ErrShort, impl.ErrSum} {
		if codes[code] < 50 {
			t.Errorf("the code %d was told %d times: too few to tell", code, codes[code])
		}
	}
}

// Numbers that are turned and sealed again: each Rec that is taken is right, and
// has just these bytes.
func TestRecHasOneWriting(t *testing.T) {
	r := rand.New(rand.NewSource(17))
	taken := 0
	for range 40000 {
		x := someRecs(r, 1)[0]
		body := []byte(bodyOf(x.At, x.Node, x.Kind, x.A, x.B, x.C))
		for range 1 + r.Intn(2) {
			body[r.Intn(len(body))] = byte(r.Intn(16))
		}
		text := lengthAhead(sealedBy(string(body)))
		wantRecs(t, "bytes turned and sealed", text, recsReadByRule(text))
		if got := impl.RecsRead(text); got.Code == impl.OK {
			taken++
			if len(got.Recs) != 1 || !recByRule(got.Recs[0]) || impl.RecBytes(got.Recs[0]) != text {
				t.Fatalf("RecsRead of %q: got %+v", text, got)
			}
		}
	}
	if taken < 1000 || taken > 39000 {
		t.Errorf("%d of 40000 were taken: too few or too many to tell", taken)
	}
}

// What is told once stays, whatever is done to what is told then.
func TestRecsAnswersAreNewMemory(t *testing.T) {
	l := oneOfEach()
	text := impl.RecsBytes(l)
	was := strings.Clone(text)
	one, all := impl.RecBytes(l[0]), impl.RecsBytes(l[:1])
	if one != all || shareMemory(one, all) || shareMemory(text, impl.RecsBytes(l)) {
		t.Errorf("the bytes of two answers share memory, or are unlike: %q, %q", one, all)
	}
	first, second := impl.RecsRead(text), impl.RecsRead(text)
	for i := range first.Recs {
		first.Recs[i] = impl.Rec{}
	}
	for i := range l {
		l[i].At = 77
	}
	if !slices.Equal(second.Recs, oneOfEach()) || !slices.Equal(impl.RecsRead(text).Recs, oneOfEach()) || text != was {
		t.Errorf("an answer was changed with another one: %+v, %q", second.Recs, text)
	}
	if got := impl.RecsBytes(l); got == was || got != recsBytesByRule(l) {
		t.Errorf("RecsBytes of what was changed in between: got %q", got)
	}
}
