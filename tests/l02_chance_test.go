package tests

import (
	"math"
	"math/big"
	"math/rand"
	"slices"
	"testing"
	"unsafe"

	"loop.example/g00678/impl"
)

const lastSeed = 2147483647

// rising is the list of many numbers that rise by step.
func rising(many int, from int64, step int64) []int64 {
	var l []int64
	for i := range many {
		l = append(l, from+int64(i)*step)
	}
	return l
}

// listsShare tells whether two lists have memory in common, up to their
// capacities.
func listsShare[T any](a []T, b []T) bool {
	if cap(a) == 0 || cap(b) == 0 {
		return false
	}
	var one T
	size := unsafe.Sizeof(one)
	fromA := uintptr(unsafe.Pointer(unsafe.SliceData(a)))
	fromB := uintptr(unsafe.Pointer(unsafe.SliceData(b)))
	return fromA < fromB+uintptr(cap(b))*size && fromB < fromA+uintptr(cap(a))*size
}

// wantOf holds an answer against what is wanted, and looks that the argument is
// as it was and shares no memory with the answer.
func wantOf(t *testing.T, what string, l []int64, call func([]int64) []int64, want []int64) {
	t.Helper()
	arg := slices.Clone(l)
	got := call(arg)
	if !slices.Equal(got, want) {
		t.Errorf("%s: got %v, want %v", what, got, want)
	}
	if !slices.Equal(arg, l) {
		t.Errorf("%s: its argument was changed from %v to %v", what, l, arg)
	}
	if listsShare(got, arg) {
		t.Errorf("%s: the answer shares memory with the argument", what)
	}
}

// chanceByBig works the rule out in numbers without bounds.
func chanceByBig(seed int64, most int64) impl.ChanceOut {
	s := big.NewInt(seed)
	s.Mul(s, big.NewInt(91813)).Add(s, big.NewInt(30011)).Mod(s, big.NewInt(2147483648))
	n := new(big.Int).Div(s, big.NewInt(256))
	n.Mod(n, big.NewInt(most))
	return impl.ChanceOut{Seed: s.Int64(), N: n.Int64()}
}

func TestChanceTold(t *testing.T) {
	for _, c := range []struct {
		seed, most int64
		want       impl.ChanceOut
	}{
		{0, 100, impl.ChanceOut{Seed: 30011, N: 17}},
		{0, 1, impl.ChanceOut{Seed: 30011}},
		{0, impl.MaxTime, impl.ChanceOut{Seed: 30011, N: 117}},
		{1, 100, impl.ChanceOut{Seed: 121824, N: 75}},
		{lastSeed, 1, impl.ChanceOut{Seed: 2147421846}},
		{lastSeed, impl.MaxTime, impl.ChanceOut{Seed: 2147421846, N: 388366}},
	} {
		if got := impl.Chance(c.seed, c.most); got != c.want {
			t.Errorf("Chance(%d, %d): got %+v, want %+v", c.seed, c.most, got, c.want)
		}
	}
	r := rand.New(rand.NewSource(2))
	for range 3000 {
		seed, most := r.Int63n(lastSeed+1), 1+r.Int63n(impl.MaxTime)
		if got, want := impl.Chance(seed, most), chanceByBig(seed, most); got != want {
			t.Errorf("Chance(%d, %d): got %+v, want %+v", seed, most, got, want)
		}
	}
}

func TestChanceRefused(t *testing.T) {
	for _, c := range [][2]int64{
		{-1, 100}, {lastSeed + 1, 100}, {math.MinInt64, 1}, {math.MaxInt64, 1},
		{0, 0}, {5, -1}, {5, impl.MaxTime + 1}, {lastSeed, math.MaxInt64}, {lastSeed, math.MinInt64},
	} {
		if got := impl.Chance(c[0], c[1]); got != (impl.ChanceOut{}) {
			t.Errorf("Chance(%d, %d): got %+v, want the zero one", c[0], c[1], got)
		}
	}
}

func TestChanceSameOfOneSeed(t *testing.T) {
	for _, seed := range []int64{0, 1, 77, lastSeed} {
		first := impl.Chance(seed, 1000)
		impl.Chance(seed+1, 3)
		impl.Shuffle(rising(9, 0, 1), seed)
		if again := impl.Chance(seed, 1000); again != first {
			t.Errorf("Chance(%d, 1000): told %+v, then %+v", seed, first, again)
		}
		if got := impl.Chance(seed, 7).Seed; got != first.Seed {
			t.Errorf("Chance(%d, 7): its Seed is %d, that of a most of 1000 is %d", seed, got, first.Seed)
		}
	}
}

// shuffleByRule changes places as the document says, a Chance a place.
func shuffleByRule(l []int64, seed int64) impl.ShuffleOut {
	out := slices.Clone(l)
	for place := len(out) - 1; place >= 1; place-- {
		c := chanceByBig(seed, int64(place)+1)
		out[place], out[c.N] = out[c.N], out[place]
		seed = c.Seed
	}
	return impl.ShuffleOut{Seed: seed, List: out}
}

func wantShuffle(t *testing.T, l []int64, seed int64, want impl.ShuffleOut) {
	t.Helper()
	var out impl.ShuffleOut
	wantOf(t, "Shuffle", l, func(arg []int64) []int64 {
		out = impl.Shuffle(arg, seed)
		return out.List
	}, want.List)
	if out.Seed != want.Seed {
		t.Errorf("Shuffle of %d numbers with %d: its Seed is %d, want %d", len(l), seed, out.Seed, want.Seed)
	}
}

func TestShuffle(t *testing.T) {
	wantShuffle(t, nil, 7, impl.ShuffleOut{Seed: 7})
	wantShuffle(t, []int64{}, lastSeed, impl.ShuffleOut{Seed: lastSeed})
	wantShuffle(t, []int64{4}, 9, impl.ShuffleOut{Seed: 9, List: []int64{4}})
	wantShuffle(t, []int64{1, 2}, 0, impl.ShuffleOut{Seed: 30011, List: []int64{1, 2}})
	wantShuffle(t, []int64{1, 2}, 10, impl.ShuffleOut{Seed: 948141, List: []int64{1, 2}})
	for _, many := range []int{2, 3, 5, 6, 17, 100, impl.MaxList - 1, impl.MaxList} {
		for _, seed := range []int64{0, 1, 12345, lastSeed - 1, lastSeed} {
			l := someNums(many)
			wantShuffle(t, l, seed, shuffleByRule(l, seed))
			got := impl.Shuffle(l, seed).List
			slices.Sort(got)
			slices.Sort(l)
			if !slices.Equal(got, l) {
				t.Errorf("Shuffle of %d numbers with %d tells other numbers", many, seed)
			}
		}
	}
}

func TestShuffleRefused(t *testing.T) {
	wantShuffle(t, rising(impl.MaxList+1, 0, 1), 5, impl.ShuffleOut{})
	wantShuffle(t, []int64{1, 2, 3}, -1, impl.ShuffleOut{})
	wantShuffle(t, []int64{1, 2, 3}, lastSeed+1, impl.ShuffleOut{})
	wantShuffle(t, nil, -1, impl.ShuffleOut{})
	wantShuffle(t, nil, math.MaxInt64, impl.ShuffleOut{})
}

// setCases are lists and whether they are right sets.
func setCases() []struct {
	list  []int64
	right bool
} {
	full := rising(impl.MaxList, -100, 3)
	twice := slices.Clone(full)
	twice[impl.MaxList-1] = twice[impl.MaxList-2]
	return []struct {
		list  []int64
		right bool
	}{
		{nil, true}, {[]int64{}, true}, {[]int64{0}, true}, {[]int64{-5}, true},
		{[]int64{1, 3}, true}, {[]int64{3, 1}, false}, {[]int64{1, 1}, false},
		{[]int64{1, 2, 2}, false}, {[]int64{2, 1, 3}, false}, {[]int64{1, 3, 2}, false},
		{[]int64{math.MinInt64, -1, 0, math.MaxInt64}, true},
		{[]int64{math.MaxInt64, math.MinInt64}, false},
		{rising(impl.MaxList-1, 0, 2), true}, {full, true}, {twice, false},
		{rising(impl.MaxList+1, 0, 2), false}, {make([]int64, impl.MaxList+1), false},
	}
}

func TestSetRight(t *testing.T) {
	for _, c := range setCases() {
		if got := impl.SetRight(c.list); got != c.right {
			t.Errorf("SetRight of %d numbers %.5v: got %v", len(c.list), c.list, got)
		}
	}
}

// asked are the numbers to ask a list for: each that is in it, and those beside.
func asked(l []int64) []int64 {
	out := []int64{math.MinInt64, -1, 0, 1, 2, 3, math.MaxInt64}
	for _, n := range l {
		out = append(out, n-1, n, n+1)
	}
	return out
}

// setBy is what a list is to be with or without a number, worked out by sorting.
func setBy(l []int64, n int64, put bool) []int64 {
	if len(l) > impl.MaxList {
		return nil
	}
	if !impl.SetRight(l) || slices.Contains(l, n) == put || put && len(l) == impl.MaxList {
		return l
	}
	if put {
		return slices.Sorted(slices.Values(append(slices.Clone(l), n)))
	}
	return slices.DeleteFunc(slices.Clone(l), func(o int64) bool { return o == n })
}

func TestSetPutDropHas(t *testing.T) {
	for _, c := range setCases() {
		for _, n := range asked(c.list) {
			if got, want := impl.SetHas(c.list, n), c.right && slices.Contains(c.list, n); got != want {
				t.Errorf("SetHas of %d numbers %.5v and %d: got %v", len(c.list), c.list, n, got)
			}
			wantOf(t, "SetPut", c.list, func(l []int64) []int64 { return impl.SetPut(l, n) }, setBy(c.list, n, true))
			wantOf(t, "SetDrop", c.list, func(l []int64) []int64 { return impl.SetDrop(l, n) }, setBy(c.list, n, false))
		}
	}
}

func TestSetEdges(t *testing.T) {
	full := rising(impl.MaxList, 1, 2)
	more := rising(impl.MaxList+1, 1, 2)
	put := func(n int64) func([]int64) []int64 {
		return func(l []int64) []int64 { return impl.SetPut(l, n) }
	}
	drop := func(n int64) func([]int64) []int64 {
		return func(l []int64) []int64 { return impl.SetDrop(l, n) }
	}
	wantOf(t, "put to none", nil, put(4), []int64{4})
	wantOf(t, "put first", []int64{2, 4}, put(1), []int64{1, 2, 4})
	wantOf(t, "put between", []int64{2, 4}, put(3), []int64{2, 3, 4})
	wantOf(t, "put last", []int64{2, 4}, put(5), []int64{2, 4, 5})
	wantOf(t, "put what is there", []int64{2, 4}, put(4), []int64{2, 4})
	wantOf(t, "put to one that falls", []int64{4, 2}, put(3), []int64{4, 2})
	wantOf(t, "put to two alike", []int64{4, 4}, put(3), []int64{4, 4})
	wantOf(t, "put to a full one", full, put(0), full)
	wantOf(t, "put to too many", more, put(0), nil)
	wantOf(t, "drop of none", nil, drop(4), nil)
	wantOf(t, "drop the only one", []int64{4}, drop(4), nil)
	wantOf(t, "drop first", []int64{2, 4, 6}, drop(2), []int64{4, 6})
	wantOf(t, "drop last", []int64{2, 4, 6}, drop(6), []int64{2, 4})
	wantOf(t, "drop what is not there", []int64{2, 4}, drop(3), []int64{2, 4})
	wantOf(t, "drop of one that falls", []int64{4, 2}, drop(4), []int64{4, 2})
	wantOf(t, "drop of a full one", full, drop(1), full[1:])
	wantOf(t, "drop of too many", more, drop(1), nil)
	if impl.SetHas(more, 1) || impl.SetHas([]int64{3, 1}, 3) || impl.SetHas([]int64{1, 1}, 1) {
		t.Error("SetHas finds a number in what is no right set")
	}
}

// A number put into a set is dropped again, also if the set is full with it.
func TestSetPutThenDrop(t *testing.T) {
	for _, many := range []int{0, 1, 2, 50, impl.MaxList - 1} {
		l := rising(many, 0, 2)
		for n := int64(-1); n <= int64(2*many); n += 2 {
			with := impl.SetPut(l, n)
			if !impl.SetRight(with) || !impl.SetHas(with, n) || len(with) != many+1 {
				t.Errorf("SetPut of %d to %d numbers: got %d numbers", n, many, len(with))
			}
			if got := impl.SetDrop(with, n); !slices.Equal(got, l) {
				t.Errorf("SetDrop of %d that was put to %d numbers: got %v", n, many, got)
			}
		}
	}
}
