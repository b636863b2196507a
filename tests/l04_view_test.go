package tests

import (
	"math"
	"math/rand"
	"slices"
	"testing"

	"loop.example/g00678/impl"
)

// factsOf are right Facts of a node, each greater than the one ahead of it.
func factsOf(node int64) []impl.Fact {
	var l []impl.Fact
	for _, inc := range []int64{0, 1, 2, lastTime - 1, lastTime} {
		for _, status := range []int64{impl.StHere, impl.StDoubt, impl.StGone} {
			l = append(l, impl.Fact{Node: node, Inc: inc, Status: status})
		}
	}
	return l
}

// wrongFacts have one thing each that is not right, and the last ones more.
func wrongFacts() []impl.Fact {
	var l []impl.Fact
	for _, node := range []int64{math.MinInt64, -1, 0, impl.MaxNodes + 1, 257, math.MaxInt64} {
		l = append(l, impl.Fact{Node: node, Inc: 1, Status: impl.StHere})
	}
	for _, inc := range []int64{math.MinInt64, -1, lastTime + 1, math.MaxInt64} {
		l = append(l, impl.Fact{Node: 1, Inc: inc, Status: impl.StHere})
	}
	for _, status := range []int64{math.MinInt64, -1, 0, 4, 257, math.MaxInt64} {
		l = append(l, impl.Fact{Node: 1, Inc: 1, Status: status})
	}
	return append(l, impl.Fact{}, impl.Fact{Node: -1, Inc: -1, Status: -1}, impl.Fact{Node: 7, Inc: lastTime + 1, Status: 4})
}

// ranks say of each node which of factsOf stands in a view, counted from 1; 0: none.
type ranks [impl.MaxNodes]int

func (r ranks) view() []impl.Fact {
	var v []impl.Fact
	for i, rank := range r {
		if rank > 0 {
			v = append(v, factsOf(int64(i) + 1)[rank-1])
		}
	}
	return v
}

func (r ranks) with(other ranks) ranks {
	for i := range r {
		r[i] = max(r[i], other[i])
	}
	return r
}

// joins is what is wanted of putting these to the others.
func (r ranks) joins(other ranks) impl.ViewOut {
	return impl.ViewOut{View: r.with(other).view(), News: r.with(other) != r}
}

func someRanks(r *rand.Rand) ranks {
	var out ranks
	for i := range out {
		if r.Intn(3) > 0 {
			out[i] = 1 + r.Intn(len(factsOf(1)))
		}
	}
	return out
}

// edgeRanks are of none, of one, of all nodes, and of all but one.
func edgeRanks() []ranks {
	l := []ranks{{}, {1, 1, 1, 1, 1, 1}, {15, 15, 15, 15, 15, 15}, {3, 2, 1, 4, 5, 6}, {0, 7, 0, 9, 0, 0}}
	for i := range impl.MaxNodes {
		var one ranks
		one[i] = 5
		all := ranks{5, 6, 7, 6, 5, 4}
		all[i] = 0
		l = append(l, one, all)
	}
	return l
}

// roomy has room behind the view, in which a writer beyond its end is seen.
func roomy(v []impl.Fact) []impl.Fact {
	room := make([]impl.Fact, len(v)+4)
	for i := copy(room, v); i < len(room); i++ {
		room[i] = impl.Fact{Node: -9, Inc: int64(i), Status: -9}
	}
	return room[:len(v)]
}

// wantView holds an answer against what is wanted, and looks that the arguments
// and what stands behind them are as they were, and share no memory with it.
func wantView(t *testing.T, what string, call func(args ...[]impl.Fact) impl.ViewOut, want impl.ViewOut, views ...[]impl.Fact) {
	t.Helper()
	var args, was [][]impl.Fact
	for _, v := range views {
		arg := roomy(v)
		args = append(args, arg)
		was = append(was, slices.Clone(arg[:cap(arg)]))
	}
	got := call(args...)
	if !slices.Equal(got.View, want.View) || got.News != want.News || got.Code != want.Code {
		t.Errorf("%s of %.200v: got %+v, want %+v", what, views, got, want)
	}
	for i, arg := range args {
		if !slices.Equal(arg[:cap(arg)], was[i]) {
			t.Errorf("%s: its argument was changed from %+v to %+v", what, was[i], arg[:cap(arg)])
		}
		if listsShare(got.View, arg) {
			t.Errorf("%s: the answer shares memory with an argument", what)
		}
	}
}

func putFact(f impl.Fact) func(args ...[]impl.Fact) impl.ViewOut {
	return func(args ...[]impl.Fact) impl.ViewOut { return impl.ViewPut(args[0], f) }
}

func joinViews(args ...[]impl.Fact) impl.ViewOut {
	return impl.ViewJoin(args[0], args[1])
}

// wrongViews have no more than MaxList Facts, and are not right.
func wrongViews() map[string][]impl.Fact {
	full := ranks{1, 2, 3, 4, 5, 6}.view()
	long := slices.Concat(full, make([]impl.Fact, impl.MaxList-len(full)))
	views := map[string][]impl.Fact{
		"two that fall":        {factsOf(2)[0], factsOf(1)[0]},
		"first two fall":       {factsOf(2)[0], factsOf(1)[0], factsOf(3)[0]},
		"last two fall":        {factsOf(1)[0], factsOf(3)[0], factsOf(2)[0]},
		"a Node twice":         {factsOf(3)[0], factsOf(3)[1]},
		"a Node twice, alike":  {factsOf(3)[4], factsOf(3)[4]},
		"a Node twice, apart":  {factsOf(1)[0], factsOf(2)[0], factsOf(1)[1]},
		"a Node twice, at end": {factsOf(1)[0], factsOf(2)[0], factsOf(2)[3]},
		"one more, Node twice": append(slices.Clone(full), factsOf(6)[14]),
		"one more, Node 7":     append(slices.Clone(full), impl.Fact{Node: 7, Status: impl.StHere}),
		"one more, Node 0":     append([]impl.Fact{{Status: impl.StHere}}, full...),
		"MaxList, zero ones":   make([]impl.Fact, impl.MaxList),
		"MaxList, right first": long,
		"MaxList, alike":       slices.Repeat([]impl.Fact{factsOf(1)[0]}, impl.MaxList),
	}
	for i := range full {
		v := slices.Clone(full)
		v[i].Inc = lastTime + 1
		views["a wrong Inc at "+string(rune('0'+i))] = v
		v = slices.Clone(full)
		v[i].Status = 0
		views["a wrong Status at "+string(rune('0'+i))] = v
	}
	return views
}

// longViews have more than MaxList Facts.
func longViews() map[string][]impl.Fact {
	return map[string][]impl.Fact{
		"one more than MaxList, zero ones":   make([]impl.Fact, impl.MaxList+1),
		"one more than MaxList, alike":       slices.Repeat([]impl.Fact{factsOf(1)[0]}, impl.MaxList+1),
		"one more than MaxList, right first": slices.Concat(edgeRanks()[1].view(), make([]impl.Fact, impl.MaxList+1-impl.MaxNodes)),
		"far too many":                       make([]impl.Fact, 5000),
	}
}

func TestFactRight(t *testing.T) {
	for node := int64(1); node <= impl.MaxNodes; node++ {
		for _, f := range factsOf(node) {
			if !impl.FactRight(f) {
				t.Errorf("FactRight of %+v: got false", f)
			}
		}
	}
	for _, f := range wrongFacts() {
		if impl.FactRight(f) {
			t.Errorf("FactRight of %+v: got true", f)
		}
	}
}

func wantPair(t *testing.T, a impl.Fact, b impl.Fact, less bool, join impl.Fact) {
	t.Helper()
	if got := impl.FactLess(a, b); got != less {
		t.Errorf("FactLess of %+v and %+v: got %v", a, b, got)
	}
	if got := impl.FactJoin(a, b); got != join {
		t.Errorf("FactJoin of %+v and %+v: got %+v, want %+v", a, b, got, join)
	}
}

func TestFactLessAndJoin(t *testing.T) {
	for node := int64(1); node <= impl.MaxNodes; node++ {
		l := factsOf(node)
		for i, a := range l {
			for j, b := range l {
				wantPair(t, a, b, i < j, l[max(i, j)])
			}
			other := node%impl.MaxNodes + 1
			for _, b := range factsOf(other) {
				wantPair(t, a, b, false, impl.Fact{})
				wantPair(t, b, a, false, impl.Fact{})
			}
		}
	}
	for _, wrong := range wrongFacts() {
		for _, f := range slices.Concat(factsOf(1), factsOf(6), wrongFacts()) {
			wantPair(t, wrong, f, false, impl.Fact{})
			wantPair(t, f, wrong, false, impl.Fact{})
		}
	}
}

func TestViewRight(t *testing.T) {
	right := [][]impl.Fact{nil, {}}
	for _, r := range edgeRanks() {
		right = append(right, r.view())
	}
	for node := int64(1); node <= impl.MaxNodes; node++ {
		for _, f := range factsOf(node) {
			right = append(right, []impl.Fact{f})
		}
	}
	for _, v := range right {
		if !impl.ViewRight(v) {
			t.Errorf("ViewRight of %+v: got false", v)
		}
	}
	for _, f := range wrongFacts() {
		if impl.ViewRight([]impl.Fact{f}) {
			t.Errorf("ViewRight of %+v alone: got true", f)
		}
	}
	for _, views := range []map[string][]impl.Fact{wrongViews(), longViews()} {
		for what, v := range views {
			if impl.ViewRight(v) {
				t.Errorf("ViewRight of %s: got true", what)
			}
		}
	}
}

func TestViewAt(t *testing.T) {
	nodes := []int64{math.MinInt64, -1, 0, 1, 2, 3, 4, 5, 6, 7, 257, math.MaxInt64}
	for _, r := range edgeRanks() {
		v := r.view()
		for _, node := range nodes {
			var want impl.Fact
			if node >= 1 && node <= impl.MaxNodes && r[node-1] > 0 {
				want = factsOf(node)[r[node-1]-1]
			}
			if got := impl.ViewAt(v, node); got != want {
				t.Errorf("ViewAt of %+v, %d: got %+v, want %+v", v, node, got, want)
			}
		}
		if !slices.Equal(v, r.view()) {
			t.Errorf("ViewAt changed its argument from %+v to %+v", r.view(), v)
		}
	}
	for _, views := range []map[string][]impl.Fact{wrongViews(), longViews()} {
		for what, v := range views {
			for _, node := range nodes {
				if got := impl.ViewAt(v, node); got != (impl.Fact{}) {
					t.Errorf("ViewAt of %s, %d: got %+v", what, node, got)
				}
			}
		}
	}
	for _, f := range wrongFacts() {
		if got := impl.ViewAt([]impl.Fact{f}, f.Node); got != (impl.Fact{}) {
			t.Errorf("ViewAt of a view of the wrong %+v: got %+v", f, got)
		}
	}
}

func TestViewPut(t *testing.T) {
	for _, r := range edgeRanks() {
		for i := range r {
			for rank := 1; rank <= len(factsOf(1)); rank++ {
				var put ranks
				put[i] = rank
				wantView(t, "ViewPut", putFact(put.view()[0]), r.joins(put), r.view())
			}
		}
	}
}

// The places and kinds of Facts that are put, written out one by one.
func TestViewPutWritten(t *testing.T) {
	two := impl.Fact{Node: 2, Inc: 5, Status: impl.StDoubt}
	four := impl.Fact{Node: 4, Inc: 0, Status: impl.StGone}
	v := []impl.Fact{two, four}
	for _, c := range []struct {
		put  impl.Fact
		want []impl.Fact
		news bool
	}{
		{impl.Fact{Node: 1, Inc: 0, Status: impl.StHere}, []impl.Fact{{Node: 1, Inc: 0, Status: 1}, two, four}, true},
		{impl.Fact{Node: 3, Inc: lastTime, Status: impl.StGone}, []impl.Fact{two, {Node: 3, Inc: lastTime, Status: 3}, four}, true},
		{impl.Fact{Node: 6, Inc: 7, Status: impl.StDoubt}, []impl.Fact{two, four, {Node: 6, Inc: 7, Status: 2}}, true},
		{two, v, false},
		{impl.Fact{Node: 2, Inc: 5, Status: impl.StHere}, v, false},
		{impl.Fact{Node: 2, Inc: 4, Status: impl.StGone}, v, false},
		{impl.Fact{Node: 2, Inc: 5, Status: impl.StGone}, []impl.Fact{{Node: 2, Inc: 5, Status: 3}, four}, true},
		{impl.Fact{Node: 2, Inc: 6, Status: impl.StHere}, []impl.Fact{{Node: 2, Inc: 6, Status: 1}, four}, true},
		{impl.Fact{Node: 4, Inc: 1, Status: impl.StHere}, []impl.Fact{two, {Node: 4, Inc: 1, Status: 1}}, true},
		{impl.Fact{Node: 4, Inc: 0, Status: impl.StDoubt}, v, false},
	} {
		wantView(t, "ViewPut", putFact(c.put), impl.ViewOut{View: c.want, News: c.news}, v)
	}
	wantView(t, "ViewPut to none", func(...[]impl.Fact) impl.ViewOut { return impl.ViewPut(nil, four) }, impl.ViewOut{View: []impl.Fact{four}, News: true})
}

func TestViewPutRefused(t *testing.T) {
	puts := append(wrongFacts(), factsOf(1)[0], factsOf(6)[14])
	for what, v := range wrongViews() {
		for _, f := range puts {
			wantView(t, "ViewPut to "+what, putFact(f), impl.ViewOut{Code: impl.ErrForm}, v)
		}
	}
	for what, v := range longViews() {
		for _, f := range puts {
			wantView(t, "ViewPut to "+what, putFact(f), impl.ViewOut{Code: impl.ErrSize}, v)
		}
	}
	for _, wrong := range wrongFacts() {
		for _, r := range edgeRanks() {
			wantView(t, "ViewPut of a wrong one", putFact(wrong), impl.ViewOut{Code: impl.ErrForm}, r.view())
		}
		wantView(t, "ViewPut to a wrong one", putFact(factsOf(2)[0]), impl.ViewOut{Code: impl.ErrForm}, []impl.Fact{wrong})
	}
}

func TestViewJoin(t *testing.T) {
	r := rand.New(rand.NewSource(4))
	l := edgeRanks()
	for range 20 {
		l = append(l, someRanks(r))
	}
	for _, a := range l {
		for _, b := range l {
			wantView(t, "ViewJoin", joinViews, a.joins(b), a.view(), b.view())
		}
	}
	wantView(t, "ViewJoin of none and none", func(...[]impl.Fact) impl.ViewOut { return impl.ViewJoin(nil, nil) }, impl.ViewOut{})
	same := l[3].view()
	if got := impl.ViewJoin(same, same); !slices.Equal(got.View, same) || got.News || got.Code != impl.OK || listsShare(got.View, same) {
		t.Errorf("ViewJoin of a view with itself: got %+v", got)
	}
}

func TestViewJoinRefused(t *testing.T) {
	refused := func(what string, a []impl.Fact, b []impl.Fact, code int64) {
		t.Helper()
		wantView(t, "ViewJoin: "+what+", first", joinViews, impl.ViewOut{Code: code}, a, b)
		wantView(t, "ViewJoin: "+what+", second", joinViews, impl.ViewOut{Code: code}, b, a)
	}
	for what, wrong := range wrongViews() {
		for _, r := range edgeRanks() {
			refused(what, wrong, r.view(), impl.ErrForm)
		}
		refused(what, wrong, wrong, impl.ErrForm)
		refused(what, wrong, []impl.Fact{{}}, impl.ErrForm)
		// Too long is looked for ahead of all else, in whichever it is.
		for long, v := range longViews() {
			refused(what+" and "+long, wrong, v, impl.ErrSize)
		}
	}
	for what, long := range longViews() {
		for _, r := range edgeRanks() {
			refused(what, long, r.view(), impl.ErrSize)
		}
		refused(what, long, long, impl.ErrSize)
	}
	for _, f := range wrongFacts() {
		refused("a wrong Fact", []impl.Fact{f}, edgeRanks()[1].view(), impl.ErrForm)
	}
}

func TestNotGone(t *testing.T) {
	r := rand.New(rand.NewSource(5))
	l := append(edgeRanks(), ranks{3, 6, 9, 12, 15, 3}, ranks{1, 2, 4, 5, 13, 14}, ranks{0, 3, 0, 0, 2, 0})
	for range 40 {
		l = append(l, someRanks(r))
	}
	for _, r := range l {
		var want []int64
		for i, rank := range r {
			// Of each Inc the third one is gone.
			if rank%3 > 0 {
				want = append(want, int64(i)+1)
			}
		}
		v := r.view()
		if got := impl.NotGone(v); !slices.Equal(got, want) {
			t.Errorf("NotGone of %+v: got %v, want %v", v, got, want)
		}
		if !slices.Equal(v, r.view()) {
			t.Errorf("NotGone changed its argument from %+v to %+v", r.view(), v)
		}
	}
	for _, views := range []map[string][]impl.Fact{wrongViews(), longViews()} {
		for what, v := range views {
			if got := impl.NotGone(v); len(got) > 0 {
				t.Errorf("NotGone of %s: got %v", what, got)
			}
		}
	}
	for _, f := range wrongFacts() {
		if got := impl.NotGone([]impl.Fact{f}); len(got) > 0 {
			t.Errorf("NotGone of the wrong %+v: got %v", f, got)
		}
	}
}

func mustJoin(t *testing.T, a []impl.Fact, b []impl.Fact) []impl.Fact {
	t.Helper()
	out := impl.ViewJoin(a, b)
	if out.Code != impl.OK || !impl.ViewRight(out.View) {
		t.Fatalf("ViewJoin of %+v and %+v: got %+v", a, b, out)
	}
	return out.View
}

// noLess: does a view hold of each node of another one no less than that?
func noLess(v []impl.Fact, other []impl.Fact) bool {
	for _, f := range other {
		if held := impl.ViewAt(v, f.Node); held.Node != f.Node || impl.FactLess(held, f) {
			return false
		}
	}
	return true
}

// Promise 5, of three views.
func TestJoiningDoesNotAsk(t *testing.T) {
	r := rand.New(rand.NewSource(6))
	for range 3000 {
		a, b, c := someRanks(r).view(), someRanks(r).view(), someRanks(r).view()
		ab := mustJoin(t, a, b)
		if ba := mustJoin(t, b, a); !slices.Equal(ab, ba) {
			t.Errorf("%+v and %+v: joined %+v, the other way %+v", a, b, ab, ba)
		}
		if again := impl.ViewJoin(ab, b); !slices.Equal(again.View, ab) || again.News {
			t.Errorf("%+v joined again with %+v: got %+v", ab, b, again)
		}
		if one, other := mustJoin(t, ab, c), mustJoin(t, a, mustJoin(t, b, c)); !slices.Equal(one, other) {
			t.Errorf("%+v, %+v and %+v: joined %+v, in other pairs %+v", a, b, c, one, other)
		}
		if !noLess(ab, a) || !noLess(ab, b) {
			t.Errorf("%+v and %+v: joined %+v, which is less than one", a, b, ab)
		}
		if len(mustJoin(t, a, a)) != len(a) || !slices.Equal(mustJoin(t, a, a), a) || !slices.Equal(mustJoin(t, a, nil), a) || !slices.Equal(mustJoin(t, nil, a), a) {
			t.Errorf("%+v joined with itself or with none is another one", a)
		}
	}
}

// Promise 5, of many views: some of them more often than once, in whichever order
// and pairs.
func TestJoiningManyInAnyPairs(t *testing.T) {
	r := rand.New(rand.NewSource(7))
	for range 200 {
		var all []ranks
		var whole ranks
		for range 2 + r.Intn(6) {
			one := someRanks(r)
			all = append(all, one)
			whole = whole.with(one)
		}
		for range 5 {
			var left [][]impl.Fact
			for _, i := range append(r.Perm(len(all)), r.Intn(len(all)), r.Intn(len(all))) {
				left = append(left, all[i].view())
			}
			for len(left) > 1 {
				i := r.Intn(len(left) - 1)
				left[i] = mustJoin(t, left[i], left[i+1])
				left = slices.Delete(left, i+1, i+2)
			}
			if !slices.Equal(left[0], whole.view()) {
				t.Errorf("%d views joined in some pairs: got %+v, want %+v", len(all), left[0], whole.view())
			}
		}
	}
}
