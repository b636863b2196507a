package tests

import (
	"math"
	"math/rand"
	"slices"
	"testing"

	"loop.example/g00678/impl"
)

// plainFact is a right Fact of a node, of a life of its own.
func plainFact(node int64) impl.Fact {
	return impl.Fact{Node: node, Inc: 10 * node, Status: 1 + node%3}
}

// rumor has the plainFact of its node.
func rumor(node int64, sent int64) impl.Rumor {
	return impl.Rumor{Fact: plainFact(node), Sent: sent}
}

// allButs are all nodes, and some that are none.
var allButs = []int64{math.MinInt64, -1, 0, 1, 2, 3, 4, 5, 6, 7, 257, math.MaxInt64}

// roomyRumors has room behind the rumors, in which a writer beyond their end is seen.
func roomyRumors(l []impl.Rumor) []impl.Rumor {
	room := make([]impl.Rumor, len(l)+4)
	for i := copy(room, l); i < len(room); i++ {
		room[i] = impl.Rumor{Fact: impl.Fact{Node: -9, Inc: int64(i), Status: -9}, Sent: -9}
	}
	return room[:len(l)]
}

// wantRumors holds an answer against what is wanted, and looks that the argument
// and what stands behind it are as they were, and share no memory with it.
func wantRumors(t *testing.T, what string, l []impl.Rumor, call func([]impl.Rumor) impl.RumorOut, want impl.RumorOut) {
	t.Helper()
	arg := roomyRumors(l)
	was := slices.Clone(arg[:cap(arg)])
	got := call(arg)
	if !slices.Equal(got.Rumors, want.Rumors) || !slices.Equal(got.Facts, want.Facts) || got.Code != want.Code {
		t.Errorf("%s of %.400v: got %+v, want %+v", what, l, got, want)
	}
	if !slices.Equal(arg[:cap(arg)], was) {
		t.Errorf("%s: its argument was changed from %+v to %+v", what, was, arg[:cap(arg)])
	}
	if listsShare(got.Rumors, arg) {
		t.Errorf("%s of %+v: the answer shares memory with the argument", what, l)
	}
	again := call(arg)
	if listsShare(got.Rumors, again.Rumors) || listsShare(got.Facts, again.Facts) {
		t.Errorf("%s of %+v: two answers share memory", what, l)
	}
}

func putRumor(f impl.Fact) func([]impl.Rumor) impl.RumorOut {
	return func(l []impl.Rumor) impl.RumorOut { return impl.RumorPut(l, f) }
}

func pickBut(but int64) func([]impl.Rumor) impl.RumorOut {
	return func(l []impl.Rumor) impl.RumorOut { return impl.RumorPick(l, but) }
}

// putByRule is what is wanted of RumorPut of right ones.
func putByRule(l []impl.Rumor, f impl.Fact) impl.RumorOut {
	var out impl.RumorOut
	for _, x := range l {
		if x.Fact.Node != f.Node {
			out.Rumors = append(out.Rumors, x)
		}
	}
	out.Rumors = append(out.Rumors, impl.Rumor{Fact: f, Sent: 0})
	return out
}

// pickByRule is what is wanted of RumorPick of right ones: places are gone
// through once for each Sent, from the least on.
func pickByRule(l []impl.Rumor, but int64) impl.RumorOut {
	picked := map[int64]bool{}
	for sent := range int64(4) {
		for _, x := range l {
			if x.Sent == sent && x.Fact.Node != but && len(picked) < 3 {
				picked[x.Fact.Node] = true
			}
		}
	}
	var out impl.RumorOut
	for node := int64(1); node <= 6; node++ {
		for _, x := range l {
			if x.Fact.Node == node && picked[node] {
				out.Facts = append(out.Facts, x.Fact)
			}
		}
	}
	for _, x := range l {
		if picked[x.Fact.Node] {
			x.Sent++
		}
		if x.Sent < 4 {
			out.Rumors = append(out.Rumors, x)
		}
	}
	return out
}

// eachRumors calls for all right rumors of at most so many nodes, in each order,
// each Sent as often as may be.
func eachRumors(most int, call func([]impl.Rumor)) {
	var more func(l []impl.Rumor)
	more = func(l []impl.Rumor) {
		call(l)
		if len(l) == most {
			return
		}
		for node := int64(1); node <= impl.MaxNodes; node++ {
			if slices.ContainsFunc(l, func(x impl.Rumor) bool { return x.Fact.Node == node }) {
				continue
			}
			for sent := range int64(4) {
				more(append(slices.Clone(l), rumor(node, sent)))
			}
		}
	}
	more(nil)
}

func someRumors(r *rand.Rand) []impl.Rumor {
	var l []impl.Rumor
	for _, i := range r.Perm(impl.MaxNodes)[:r.Intn(impl.MaxNodes+1)] {
		facts := factsOf(int64(i) + 1)
		l = append(l, impl.Rumor{Fact: facts[r.Intn(len(facts))], Sent: r.Int63n(4)})
	}
	return l
}

// fullRumors are of all nodes, whose places neither rise nor fall.
func fullRumors() []impl.Rumor {
	return []impl.Rumor{rumor(4, 2), rumor(1, 0), rumor(6, 3), rumor(2, 1), rumor(5, 0), rumor(3, 2)}
}

// wrongRumors have no more than MaxList items, and are not right.
func wrongRumors() map[string][]impl.Rumor {
	full := fullRumors()
	wrong := map[string][]impl.Rumor{
		"a Node twice, alike":               {rumor(3, 1), rumor(3, 1)},
		"a Node twice, beside":              {rumor(3, 0), {Fact: factsOf(3)[4], Sent: 0}},
		"a Node twice, first":               {rumor(3, 0), {Fact: factsOf(3)[4], Sent: 2}, rumor(1, 0)},
		"a Node twice, last":                {rumor(1, 0), rumor(3, 0), {Fact: factsOf(3)[4], Sent: 2}},
		"a Node twice, apart":               {rumor(5, 0), rumor(2, 1), {Fact: factsOf(5)[7], Sent: 3}},
		"a Node twice, far apart":           append(slices.Clone(full), impl.Rumor{Fact: factsOf(4)[0], Sent: 0}),
		"one more, of the first Node":       append(slices.Clone(full), full[0]),
		"one more, of the last Node":        append(slices.Clone(full), full[5]),
		"one more, of the Node 7":           append(slices.Clone(full), impl.Rumor{Fact: impl.Fact{Node: 7, Status: impl.StHere}}),
		"one more, of the Node 0":           append([]impl.Rumor{{Fact: impl.Fact{Status: impl.StHere}}}, full...),
		"the zero one":                      {{}},
		"a zero one behind":                 append(slices.Clone(full[:5]), impl.Rumor{}),
		"MaxList, zero ones":                make([]impl.Rumor, impl.MaxList),
		"MaxList, right first":              slices.Concat(full, make([]impl.Rumor, impl.MaxList-len(full))),
		"MaxList, alike":                    slices.Repeat([]impl.Rumor{rumor(1, 0)}, impl.MaxList),
		"MaxList, right ones over and over": slices.Repeat(full, impl.MaxList)[:impl.MaxList],
	}
	for i := range full {
		place := " at " + string(rune('0'+i))
		for what, change := range map[string]func(*impl.Rumor){
			"Sent below 0":       func(x *impl.Rumor) { x.Sent = -1 },
			"Sent MaxSent":       func(x *impl.Rumor) { x.Sent = 4 },
			"Sent above MaxSent": func(x *impl.Rumor) { x.Sent = 5 },
			"a wrong Node":       func(x *impl.Rumor) { x.Fact.Node = 7 },
			"a wrong Inc":        func(x *impl.Rumor) { x.Fact.Inc = lastTime + 1 },
			"a wrong Status":     func(x *impl.Rumor) { x.Fact.Status = 0 },
		} {
			l := slices.Clone(full)
			change(&l[i])
			wrong[what+place] = l
		}
	}
	return wrong
}

// longRumors have more than MaxList items.
func longRumors() map[string][]impl.Rumor {
	full := fullRumors()
	return map[string][]impl.Rumor{
		"one more than MaxList, zero ones":   make([]impl.Rumor, impl.MaxList+1),
		"one more than MaxList, alike":       slices.Repeat([]impl.Rumor{rumor(1, 0)}, impl.MaxList+1),
		"one more than MaxList, right first": slices.Concat(full, make([]impl.Rumor, impl.MaxList+1-len(full))),
		"one more than MaxList, right last":  slices.Concat(make([]impl.Rumor, impl.MaxList+1-len(full)), full),
		"far too many":                       make([]impl.Rumor, 5000),
	}
}

func TestRumorsRight(t *testing.T) {
	if impl.MaxSent != 4 {
		t.Errorf("MaxSent: got %d", impl.MaxSent)
	}
	right := [][]impl.Rumor{nil, {}, fullRumors()}
	for node := int64(1); node <= impl.MaxNodes; node++ {
		for _, f := range factsOf(node) {
			for sent := range int64(4) {
				right = append(right, []impl.Rumor{{Fact: f, Sent: sent}})
			}
		}
	}
	for _, l := range right {
		if !impl.RumorsRight(l) {
			t.Errorf("RumorsRight of %+v: got false", l)
		}
	}
	eachRumors(3, func(l []impl.Rumor) {
		if !impl.RumorsRight(l) {
			t.Errorf("RumorsRight of %+v: got false", l)
		}
	})
}

func TestRumorsNotRight(t *testing.T) {
	for _, f := range wrongFacts() {
		for sent := int64(-1); sent <= 4; sent++ {
			if impl.RumorsRight([]impl.Rumor{{Fact: f, Sent: sent}}) {
				t.Errorf("RumorsRight of the wrong %+v, Sent %d: got true", f, sent)
			}
		}
		if impl.RumorsRight([]impl.Rumor{rumor(2, 0), {Fact: f}}) || impl.RumorsRight([]impl.Rumor{{Fact: f}, rumor(2, 0)}) {
			t.Errorf("RumorsRight of the wrong %+v beside a right one: got true", f)
		}
	}
	for _, sent := range []int64{math.MinInt64, -257, -1, 4, 5, 256, 1 << 32, math.MaxInt64} {
		if impl.RumorsRight([]impl.Rumor{rumor(1, sent)}) {
			t.Errorf("RumorsRight of one that is Sent %d: got true", sent)
		}
	}
	for _, rumors := range []map[string][]impl.Rumor{wrongRumors(), longRumors()} {
		for what, l := range rumors {
			if impl.RumorsRight(l) {
				t.Errorf("RumorsRight of %s: got true", what)
			}
		}
	}
}

// Where a Fact is put, written out one by one.
func TestRumorPutWritten(t *testing.T) {
	l := []impl.Rumor{rumor(5, 3), rumor(1, 2), rumor(3, 1)}
	two := impl.Fact{Node: 2, Inc: 7, Status: impl.StGone}
	first := impl.Fact{Node: 5, Inc: 51, Status: impl.StHere}
	midst := impl.Fact{Node: 1, Inc: 0, Status: impl.StDoubt}
	last := impl.Fact{Node: 3, Inc: lastTime, Status: impl.StGone}
	for _, c := range []struct {
		what string
		put  impl.Fact
		want []impl.Rumor
	}{
		{"a Node that is not there", two, []impl.Rumor{rumor(5, 3), rumor(1, 2), rumor(3, 1), {Fact: two}}},
		{"the first one's Node", first, []impl.Rumor{rumor(1, 2), rumor(3, 1), {Fact: first}}},
		{"the Node in the midst, of a lesser Inc", midst, []impl.Rumor{rumor(5, 3), rumor(3, 1), {Fact: midst}}},
		{"the last one's Node", last, []impl.Rumor{rumor(5, 3), rumor(1, 2), {Fact: last}}},
		{"the first one's own Fact", plainFact(5), []impl.Rumor{rumor(1, 2), rumor(3, 1), rumor(5, 0)}},
		{"the last one's own Fact", plainFact(3), []impl.Rumor{rumor(5, 3), rumor(1, 2), rumor(3, 0)}},
	} {
		wantRumors(t, "RumorPut, "+c.what, l, putRumor(c.put), impl.RumorOut{Rumors: c.want})
	}
	wantRumors(t, "RumorPut to none", nil, putRumor(two), impl.RumorOut{Rumors: []impl.Rumor{{Fact: two}}})
	wantRumors(t, "RumorPut to one of its Node", []impl.Rumor{rumor(2, 3)}, putRumor(two), impl.RumorOut{Rumors: []impl.Rumor{{Fact: two}}})
}

func TestRumorPut(t *testing.T) {
	puts := []impl.Fact{}
	for node := int64(1); node <= impl.MaxNodes; node++ {
		puts = append(puts, plainFact(node), factsOf(node)[0], factsOf(node)[14])
	}
	eachRumors(2, func(l []impl.Rumor) {
		for _, f := range puts {
			wantRumors(t, "RumorPut", l, putRumor(f), putByRule(l, f))
		}
	})
	r := rand.New(rand.NewSource(12))
	for range 2000 {
		l := someRumors(r)
		for _, f := range puts {
			wantRumors(t, "RumorPut", l, putRumor(f), putByRule(l, f))
		}
	}
}

func TestRumorPutRefused(t *testing.T) {
	puts := append(wrongFacts(), factsOf(1)[0], factsOf(3)[4], factsOf(6)[14])
	for what, l := range wrongRumors() {
		for _, f := range puts {
			wantRumors(t, "RumorPut to "+what, l, putRumor(f), impl.RumorOut{Code: impl.ErrForm})
		}
	}
	// Too long is looked for ahead of all else.
	for what, l := range longRumors() {
		for _, f := range puts {
			wantRumors(t, "RumorPut to "+what, l, putRumor(f), impl.RumorOut{Code: impl.ErrSize})
		}
	}
	for _, wrong := range wrongFacts() {
		for _, l := range [][]impl.Rumor{nil, {rumor(1, 0)}, {rumor(2, 3)}, fullRumors()} {
			wantRumors(t, "RumorPut of a wrong one", l, putRumor(wrong), impl.RumorOut{Code: impl.ErrForm})
		}
		wantRumors(t, "RumorPut to a wrong one", []impl.Rumor{{Fact: wrong}}, putRumor(plainFact(2)), impl.RumorOut{Code: impl.ErrForm})
		wantRumors(t, "RumorPut to a wrong one of its Node", []impl.Rumor{{Fact: wrong}}, putRumor(plainFact(1)), impl.RumorOut{Code: impl.ErrForm})
	}
}

// pickCase is what is picked of some rumors, written out.
type pickCase struct {
	what  string
	l     []impl.Rumor
	but   int64
	nodes []int64
	left  []impl.Rumor
}

func wantPicks(t *testing.T, cases []pickCase) {
	t.Helper()
	for _, c := range cases {
		want := impl.RumorOut{Rumors: c.left}
		for _, node := range c.nodes {
			want.Facts = append(want.Facts, plainFact(node))
		}
		wantRumors(t, "RumorPick, "+c.what, c.l, pickBut(c.but), want)
	}
}

func TestRumorPickWritten(t *testing.T) {
	three := []impl.Rumor{rumor(6, 0), rumor(2, 2), rumor(4, 1)}
	wantPicks(t, []pickCase{
		{"none", nil, 0, nil, nil},
		{"none, but a node", []impl.Rumor{}, 3, nil, nil},
		{"one", []impl.Rumor{rumor(3, 0)}, 0, []int64{3}, []impl.Rumor{rumor(3, 1)}},
		{"one, but it", []impl.Rumor{rumor(3, 0)}, 3, nil, []impl.Rumor{rumor(3, 0)}},
		{"one, but another", []impl.Rumor{rumor(3, 2)}, 4, []int64{3}, []impl.Rumor{rumor(3, 3)}},
		{"one for the last time", []impl.Rumor{rumor(3, 3)}, 4, []int64{3}, nil},
		{"one for the last time, but it", []impl.Rumor{rumor(3, 3)}, 3, nil, []impl.Rumor{rumor(3, 3)}},
		{"three", three, 0, []int64{2, 4, 6}, []impl.Rumor{rumor(6, 1), rumor(2, 3), rumor(4, 2)}},
		{"three, but the first", three, 6, []int64{2, 4}, []impl.Rumor{rumor(6, 0), rumor(2, 3), rumor(4, 2)}},
		{"three, but one in the midst", three, 2, []int64{4, 6}, []impl.Rumor{rumor(6, 1), rumor(2, 2), rumor(4, 2)}},
		{"three, but the last", three, 4, []int64{2, 6}, []impl.Rumor{rumor(6, 1), rumor(2, 3), rumor(4, 1)}},
		{"three, but one of whom there is none", three, 1, []int64{2, 4, 6}, []impl.Rumor{rumor(6, 1), rumor(2, 3), rumor(4, 2)}},
	})
}

func TestRumorPickOfMany(t *testing.T) {
	four := []impl.Rumor{rumor(5, 1), rumor(3, 1), rumor(1, 1), rumor(2, 1)}
	last := []impl.Rumor{rumor(6, 3), rumor(2, 3), rumor(4, 3), rumor(1, 3)}
	full := fullRumors()
	wantPicks(t, []pickCase{
		{"four of one Sent", four, 0, []int64{1, 3, 5}, []impl.Rumor{rumor(5, 2), rumor(3, 2), rumor(1, 2), rumor(2, 1)}},
		{"four of one Sent, but the first", four, 5, []int64{1, 2, 3}, []impl.Rumor{rumor(5, 1), rumor(3, 2), rumor(1, 2), rumor(2, 2)}},
		{"four of one Sent, but the last", four, 2, []int64{1, 3, 5}, []impl.Rumor{rumor(5, 2), rumor(3, 2), rumor(1, 2), rumor(2, 1)}},
		{"four for the last time", last, 0, []int64{2, 4, 6}, []impl.Rumor{rumor(1, 3)}},
		{"four for the last time, but the first", last, 6, []int64{1, 2, 4}, []impl.Rumor{rumor(6, 3)}},
		{"the least is the last", []impl.Rumor{rumor(1, 3), rumor(2, 3), rumor(3, 3), rumor(4, 2)}, 0, []int64{1, 2, 4}, []impl.Rumor{rumor(3, 3), rumor(4, 3)}},
		{"one stays, one goes", []impl.Rumor{rumor(5, 3), rumor(4, 2)}, 0, []int64{4, 5}, []impl.Rumor{rumor(4, 3)}},
		{"six", full, 0, []int64{1, 2, 5}, []impl.Rumor{rumor(4, 2), rumor(1, 1), rumor(6, 3), rumor(2, 2), rumor(5, 1), rumor(3, 2)}},
		{"six, but the least", full, 1, []int64{2, 4, 5}, []impl.Rumor{rumor(4, 3), rumor(1, 0), rumor(6, 3), rumor(2, 2), rumor(5, 1), rumor(3, 2)}},
		{"six, but one that is told often", full, 6, []int64{1, 2, 5}, []impl.Rumor{rumor(4, 2), rumor(1, 1), rumor(6, 3), rumor(2, 2), rumor(5, 1), rumor(3, 2)}},
	})
}

func TestRumorPick(t *testing.T) {
	eachRumors(3, func(l []impl.Rumor) {
		for _, but := range allButs {
			wantRumors(t, "RumorPick", l, pickBut(but), pickByRule(l, but))
		}
	})
	r := rand.New(rand.NewSource(13))
	for range 5000 {
		l := someRumors(r)
		for _, but := range allButs {
			wantRumors(t, "RumorPick", l, pickBut(but), pickByRule(l, but))
		}
	}
	// Of several orders of one set of nodes, all that matters is what is Sent and where.
	for range 500 {
		var l []impl.Rumor
		for _, i := range r.Perm(impl.MaxNodes) {
			l = append(l, rumor(int64(i)+1, r.Int63n(2)+2))
		}
		for _, but := range allButs {
			wantRumors(t, "RumorPick", l, pickBut(but), pickByRule(l, but))
		}
	}
}

func TestRumorPickRefused(t *testing.T) {
	for _, but := range allButs {
		for what, l := range wrongRumors() {
			wantRumors(t, "RumorPick of "+what, l, pickBut(but), impl.RumorOut{Code: impl.ErrForm})
		}
		for what, l := range longRumors() {
			wantRumors(t, "RumorPick of "+what, l, pickBut(but), impl.RumorOut{Code: impl.ErrSize})
		}
		for _, f := range wrongFacts() {
			wantRumors(t, "RumorPick of a wrong one", []impl.Rumor{{Fact: f}}, pickBut(but), impl.RumorOut{Code: impl.ErrForm})
		}
	}
}

// What is picked fits into a mail to whom it is picked for.
func TestRumorsPickedFitAMail(t *testing.T) {
	r := rand.New(rand.NewSource(14))
	for range 2000 {
		for to := int64(2); to <= impl.MaxNodes; to++ {
			got := impl.RumorPick(someRumors(r), to)
			if m := (impl.Mail{Kind: impl.MlPing, From: 1, To: to, Facts: got.Facts}); got.Code != impl.OK || !impl.MailRight(m) {
				t.Fatalf("%+v is not right: picked %+v", m, got)
			}
		}
	}
}

// told counts, of each node, how often its rumor was told since it was put.
type told [impl.MaxNodes + 1]int

// tell picks once, counts, and looks that nobody is told what is about it.
func (n *told) tell(t *testing.T, l []impl.Rumor, but int64) []impl.Rumor {
	t.Helper()
	out := impl.RumorPick(l, but)
	if out.Code != impl.OK || !impl.RumorsRight(out.Rumors) {
		t.Fatalf("RumorPick of %+v, but %d: got %+v", l, but, out)
	}
	if len(out.Facts) > 3 {
		t.Fatalf("RumorPick of %+v: more than three, %+v", l, out.Facts)
	}
	for _, f := range out.Facts {
		if f.Node == but {
			t.Fatalf("RumorPick of %+v, but %d: told to whom it is about, %+v", l, but, out.Facts)
		}
		if !slices.ContainsFunc(l, func(x impl.Rumor) bool { return x.Fact == f }) {
			t.Fatalf("RumorPick of %+v, but %d: there is no rumor of %+v", l, but, f)
		}
		n[f.Node]++
	}
	return out.Rumors
}

// Promise 7: all that is put is told four times, and then no more.
func TestRumorIsToldAsOftenAsItMayBe(t *testing.T) {
	r := rand.New(rand.NewSource(15))
	for range 2000 {
		var l []impl.Rumor
		var n, want told
		for _, i := range r.Perm(impl.MaxNodes)[:r.Intn(impl.MaxNodes+1)] {
			l = impl.RumorPut(l, plainFact(int64(i)+1)).Rumors
			want[i+1] = 4
		}
		for turns := 0; len(l) > 0; turns++ {
			if turns > 1000 {
				t.Fatalf("told %v, and never all: %+v", n, l)
			}
			l = n.tell(t, l, r.Int63n(impl.MaxNodes+1))
		}
		if n != want {
			t.Fatalf("told %v times, want %v", n, want)
		}
		for but := range int64(impl.MaxNodes + 1) {
			if l = n.tell(t, l, but); n != want || len(l) > 0 {
				t.Fatalf("told once more: %v, want %v", n, want)
			}
		}
	}
}

// Promise 7, of what is put anew in the midst of telling: each is told no more
// than four times since it was put, and is there just till then.
func TestRumorPutAnewIsToldAnew(t *testing.T) {
	r := rand.New(rand.NewSource(16))
	for range 300 {
		var l []impl.Rumor
		var n told
		put := map[int64]bool{}
		for range 60 {
			if r.Intn(4) == 0 {
				f := factsOf(1 + r.Int63n(impl.MaxNodes))[r.Intn(15)]
				l = impl.RumorPut(l, f).Rumors
				n[f.Node], put[f.Node] = 0, true
			}
			l = n.tell(t, l, r.Int63n(impl.MaxNodes+2))
			for node := int64(1); node <= impl.MaxNodes; node++ {
				at := slices.IndexFunc(l, func(x impl.Rumor) bool { return x.Fact.Node == node })
				if there := put[node] && n[node] < 4; there != (at >= 0) || at >= 0 && l[at].Sent != int64(n[node]) || n[node] > 4 {
					t.Fatalf("node %d was told of %d times since it was put: %+v", node, n[node], l)
				}
			}
		}
	}
}

// A rumor that is only picked for whom it is about stays as it is, however often.
func TestRumorWaitsForOthers(t *testing.T) {
	for node := int64(1); node <= impl.MaxNodes; node++ {
		for sent := range int64(4) {
			l := []impl.Rumor{rumor(node, sent)}
			for range 20 {
				wantRumors(t, "RumorPick for whom it is about", l, pickBut(node), impl.RumorOut{Rumors: l})
				l = impl.RumorPick(l, node).Rumors
			}
			for left := 4 - sent; left > 0; left-- {
				out := impl.RumorPick(l, node%impl.MaxNodes+1)
				if len(out.Facts) != 1 || out.Facts[0] != plainFact(node) {
					t.Fatalf("RumorPick of %+v: got %+v", l, out)
				}
				l = out.Rumors
			}
			if len(l) > 0 {
				t.Errorf("told as often as it may be, and still there: %+v", l)
			}
		}
	}
}
