package tests

import (
	"math"
	"math/rand"
	"slices"
	"testing"

	"loop.example/g00678/impl"
)

// roomyNums has room behind the numbers, in which a writer beyond their end is seen.
func roomyNums(l []int64) []int64 {
	room := make([]int64, len(l)+8)
	for i := copy(room, l); i < len(room); i++ {
		room[i] = -9 - int64(i)
	}
	return room[:len(l)]
}

func sameTurn(a impl.TurnOut, b impl.TurnOut) bool {
	return slices.Equal(a.Turn.List, b.Turn.List) && a.Turn.At == b.Turn.At && a.Node == b.Node && a.Seed == b.Seed && a.Code == b.Code
}

// wantTurn holds an answer against what is wanted, and looks that the arguments
// and what stands behind them are as they were, and share no memory with it.
func wantTurn(t *testing.T, what string, turn impl.Turn, nodes []int64, seed int64, want impl.TurnOut) {
	t.Helper()
	list, among := roomyNums(turn.List), roomyNums(nodes)
	wasList, wasAmong := slices.Clone(list[:cap(list)]), slices.Clone(among[:cap(among)])
	got := impl.TurnNext(impl.Turn{List: list, At: turn.At}, among, seed)
	if !sameTurn(got, want) {
		t.Errorf("TurnNext, %s, of %.200v, %.200v, %d: got %+v, want %+v", what, turn, nodes, seed, got, want)
	}
	if !slices.Equal(list[:cap(list)], wasList) || !slices.Equal(among[:cap(among)], wasAmong) {
		t.Errorf("TurnNext, %s, of %.200v, %.200v: an argument was changed", what, turn, nodes)
	}
	if listsShare(got.Turn.List, list) || listsShare(got.Turn.List, among) {
		t.Errorf("TurnNext, %s, of %.200v, %.200v: the answer shares memory with an argument", what, turn, nodes)
	}
	if again := impl.TurnNext(impl.Turn{List: list, At: turn.At}, among, seed); listsShare(got.Turn.List, again.Turn.List) {
		t.Errorf("TurnNext, %s, of %.200v, %.200v: two answers share memory", what, turn, nodes)
	}
}

func wantSome(t *testing.T, what string, nodes []int64, many int64, seed int64, want impl.ShuffleOut) {
	t.Helper()
	among := roomyNums(nodes)
	was := slices.Clone(among[:cap(among)])
	got := impl.Some(among, many, seed)
	if !slices.Equal(got.List, want.List) || got.Seed != want.Seed {
		t.Errorf("Some, %s, of %.200v, %d, %d: got %+v, want %+v", what, nodes, many, seed, got, want)
	}
	if !slices.Equal(among[:cap(among)], was) {
		t.Errorf("Some, %s, of %.200v: its argument was changed", what, nodes)
	}
	if listsShare(got.List, among) || listsShare(got.List, impl.Some(among, many, seed).List) {
		t.Errorf("Some, %s, of %.200v: the answer shares memory", what, nodes)
	}
}

// turnByRule is what is wanted of TurnNext of right ones, where nodes has some.
func turnByRule(turn impl.Turn, nodes []int64, seed int64) impl.TurnOut {
	for at := turn.At; at < int64(len(turn.List)); at++ {
		if slices.Contains(nodes, turn.List[at]) {
			return impl.TurnOut{Turn: impl.Turn{List: turn.List, At: at + 1}, Node: turn.List[at], Seed: seed}
		}
	}
	s := shuffleByRule(nodes, seed)
	return impl.TurnOut{Turn: impl.Turn{List: s.List, At: 1}, Node: s.List[0], Seed: s.Seed}
}

// someByRule is what is wanted of Some of right ones.
func someByRule(nodes []int64, many int64, seed int64) impl.ShuffleOut {
	s := shuffleByRule(nodes, seed)
	for int64(len(s.List)) > many {
		s.List = s.List[:len(s.List)-1]
	}
	return s
}

// nodeSets are all right sets of nodes, the one of none first.
func nodeSets() [][]int64 {
	var sets [][]int64
	for bits := range 1 << impl.MaxNodes {
		var set []int64
		for i := range int64(impl.MaxNodes) {
			if bits>>i&1 == 1 {
				set = append(set, i+1)
			}
		}
		sets = append(sets, set)
	}
	return sets
}

// eachTurn calls for all right Turns.
func eachTurn(call func(impl.Turn)) {
	var more func(l []int64)
	more = func(l []int64) {
		for at := range int64(len(l)) + 1 {
			call(impl.Turn{List: l, At: at})
		}
		for node := int64(1); node <= impl.MaxNodes; node++ {
			if !slices.Contains(l, node) {
				more(append(slices.Clone(l), node))
			}
		}
	}
	more(nil)
}

// noNodes are numbers that are no nodes, also where they are cut to fewer bits.
var noNodes = []int64{math.MinInt64, -257, -6, -1, 0, 7, 8, 256, 257, 1<<32 + 1, math.MaxInt64}

var rightSeeds = []int64{0, 1, 2, 12345, lastSeed - 1, lastSeed}

var wrongSeeds = []int64{math.MinInt64, -1, lastSeed + 1, lastSeed + 2, 1 << 32, 1<<32 + 1, math.MaxInt64}

// fullRound has all nodes, which neither rise nor fall.
func fullRound() []int64 {
	return []int64{4, 1, 6, 2, 5, 3}
}

func wrongTurns() map[string]impl.Turn {
	wrong := map[string]impl.Turn{
		"two alike, alone":                {List: []int64{3, 3}},
		"two alike, beside, first":        {List: []int64{3, 3, 1}, At: 2},
		"two alike, beside, last":         {List: []int64{1, 3, 3}, At: 3},
		"two alike, apart":                {List: []int64{3, 1, 3}, At: 1},
		"two alike, far apart":            {List: []int64{4, 1, 6, 2, 5, 4}, At: 1},
		"two alike, last of six":          {List: []int64{4, 1, 6, 2, 5, 5}, At: 1},
		"one more, of the first":          {List: append(fullRound(), 4)},
		"one more, of the last":           {List: append(fullRound(), 3), At: 7},
		"one more, that is no node":       {List: append(fullRound(), 7), At: 3},
		"one more ahead, that is no node": {List: append([]int64{0}, fullRound()...), At: 1},
		"MaxList, alike":                  {List: slices.Repeat([]int64{1}, impl.MaxList)},
		"MaxList, rising":                 {List: rising(impl.MaxList, 1, 1)},
		"one more than MaxList, alike":    {List: slices.Repeat([]int64{1}, impl.MaxList+1)},
		"one more than MaxList, rising":   {List: rising(impl.MaxList+1, 1, 1), At: 1},
		"far too many":                    {List: make([]int64, 5000)},
	}
	for _, many := range []int{0, 1, 2, 3, 6} {
		of := " of " + string(rune('0'+many))
		wrong["At below 0"+of] = impl.Turn{List: fullRound()[:many], At: -1}
		wrong["At above"+of] = impl.Turn{List: fullRound()[:many], At: int64(many) + 1}
		wrong["At far above"+of] = impl.Turn{List: fullRound()[:many], At: math.MaxInt64}
		wrong["At far below"+of] = impl.Turn{List: fullRound()[:many], At: math.MinInt64}
		wrong["At cut"+of] = impl.Turn{List: fullRound()[:many], At: 1 << 32}
		for place := range many {
			for i, no := range noNodes {
				l := fullRound()[:many]
				l[place] = no
				wrong["no node "+string(rune('a'+i))+" at "+string(rune('0'+place))+of] = impl.Turn{List: l, At: int64(place)}
			}
		}
	}
	return wrong
}

// wrongNodes have no more than MaxList items, and are no right sets of nodes.
func wrongNodes() map[string][]int64 {
	wrong := map[string][]int64{
		"falling":               {2, 1},
		"falling at the end":    {1, 2, 3, 4, 6, 5},
		"alike":                 {2, 2},
		"alike, last":           {1, 2, 6, 6},
		"alike, apart":          {1, 2, 1},
		"one more, alike":       {1, 2, 3, 4, 5, 6, 6},
		"one more, no node":     {1, 2, 3, 4, 5, 6, 7},
		"one more, 0 ahead":     {0, 1, 2, 3, 4, 5, 6},
		"a wrong one behind":    {1, 2, 7},
		"a wrong one ahead":     {-1, 1, 2},
		"MaxList, rising":       rising(impl.MaxList, 1, 1),
		"MaxList, alike":        slices.Repeat([]int64{1}, impl.MaxList),
		"MaxList, zeros":        make([]int64, impl.MaxList),
		"MaxList, over 6 times": slices.Repeat(rising(6, 1, 1), impl.MaxList)[:impl.MaxList],
	}
	for i, no := range noNodes {
		wrong["one that is no node, "+string(rune('a'+i))] = []int64{no}
	}
	return wrong
}

// longNodes have more than MaxList items.
func longNodes() map[string][]int64 {
	return map[string][]int64{
		"one more than MaxList, rising": rising(impl.MaxList+1, 1, 1),
		"one more than MaxList, alike":  slices.Repeat([]int64{1}, impl.MaxList+1),
		"one more than MaxList, zeros":  make([]int64, impl.MaxList+1),
		"far too many":                  make([]int64, 5000),
	}
}

func TestTurnRight(t *testing.T) {
	for _, turn := range []impl.Turn{
		{},
		{List: []int64{}},
		{List: []int64{1}},
		{List: []int64{6}, At: 1},
		{List: []int64{6, 1}, At: 2},
		{List: fullRound()},
		{List: fullRound(), At: 5},
		{List: fullRound(), At: 6},
		{List: rising(6, 1, 1), At: 3},
	} {
		if !impl.TurnRight(turn) {
			t.Errorf("TurnRight of %+v: got false", turn)
		}
	}
	many := 0
	eachTurn(func(turn impl.Turn) {
		many++
		if !impl.TurnRight(turn) {
			t.Errorf("TurnRight of %+v: got false", turn)
		}
		if len(turn.List) == 0 {
			return
		}
		// A Turn is no longer right with one more that is in it already.
		if impl.TurnRight(impl.Turn{List: append(slices.Clone(turn.List), turn.List[0]), At: turn.At}) {
			t.Errorf("TurnRight of %+v and its first one again: got true", turn)
		}
	})
	if many < 10000 {
		t.Errorf("only %d Turns were looked at", many)
	}
}

func TestTurnNotRight(t *testing.T) {
	for what, turn := range wrongTurns() {
		was := slices.Clone(turn.List)
		if impl.TurnRight(turn) {
			t.Errorf("TurnRight of %s: got true", what)
		}
		if !slices.Equal(turn.List, was) {
			t.Errorf("TurnRight of %s: its argument was changed", what)
		}
	}
	for _, no := range noNodes {
		if impl.TurnRight(impl.Turn{List: []int64{no}}) || impl.TurnRight(impl.Turn{List: []int64{2, no}}) || impl.TurnRight(impl.Turn{List: []int64{no, 2}, At: 2}) {
			t.Errorf("TurnRight of one that has %d: got true", no)
		}
	}
	// Each pair of places in a full round is looked at.
	for i := range 6 {
		for j := range i {
			l := fullRound()
			l[i] = l[j]
			if impl.TurnRight(impl.Turn{List: l}) {
				t.Errorf("TurnRight of %v, alike at %d and %d: got true", l, i, j)
			}
		}
	}
}

// Whose turn it is, written out one by one.
func TestTurnNextWritten(t *testing.T) {
	round := fullRound()
	for _, c := range []struct {
		what  string
		turn  impl.Turn
		nodes []int64
		seed  int64
		want  impl.TurnOut
	}{
		{"at At, the first", impl.Turn{List: round}, []int64{3, 4}, 8, impl.TurnOut{Turn: impl.Turn{List: round, At: 1}, Node: 4, Seed: 8}},
		{"at At, in the midst", impl.Turn{List: round, At: 2}, []int64{4, 6}, 8, impl.TurnOut{Turn: impl.Turn{List: round, At: 3}, Node: 6, Seed: 8}},
		{"behind At", impl.Turn{List: round, At: 1}, []int64{2, 3, 4}, 0, impl.TurnOut{Turn: impl.Turn{List: round, At: 4}, Node: 2}},
		{"the last, from the first on", impl.Turn{List: round}, []int64{3}, lastSeed, impl.TurnOut{Turn: impl.Turn{List: round, At: 6}, Node: 3, Seed: lastSeed}},
		{"the last, from it on", impl.Turn{List: round, At: 5}, []int64{1, 3}, 8, impl.TurnOut{Turn: impl.Turn{List: round, At: 6}, Node: 3, Seed: 8}},
		{"all are asked, from the first on", impl.Turn{List: round}, rising(6, 1, 1), 8, impl.TurnOut{Turn: impl.Turn{List: round, At: 1}, Node: 4, Seed: 8}},
		{"one, alone", impl.Turn{List: []int64{5}}, []int64{5}, 8, impl.TurnOut{Turn: impl.Turn{List: []int64{5}, At: 1}, Node: 5, Seed: 8}},
		{"one that had its turn", impl.Turn{List: []int64{5}, At: 1}, []int64{5}, 8, impl.TurnOut{Turn: impl.Turn{List: []int64{5}, At: 1}, Node: 5, Seed: 8}},
		{"none such from At on, one ahead", impl.Turn{List: round, At: 1}, []int64{4}, 8, impl.TurnOut{Turn: impl.Turn{List: []int64{4}, At: 1}, Node: 4, Seed: 8}},
		{"none such from At on, two ahead", impl.Turn{List: round, At: 4}, []int64{1, 2}, 2, impl.TurnOut{Turn: impl.Turn{List: []int64{2, 1}, At: 1}, Node: 2, Seed: 213637}},
		{"none such at all", impl.Turn{List: []int64{4, 5}}, []int64{1, 2}, 0, impl.TurnOut{Turn: impl.Turn{List: []int64{1, 2}, At: 1}, Node: 1, Seed: 30011}},
		{"the round is at its end", impl.Turn{List: []int64{1, 2, 3}, At: 3}, []int64{1, 2, 3}, 0, impl.TurnOut{Turn: impl.Turn{List: []int64{2, 3, 1}, At: 1}, Node: 2, Seed: 607946306}},
		{"no round yet", impl.Turn{}, []int64{1, 2}, 2, impl.TurnOut{Turn: impl.Turn{List: []int64{2, 1}, At: 1}, Node: 2, Seed: 213637}},
		{"no round yet, one", impl.Turn{List: []int64{}}, []int64{6}, lastSeed, impl.TurnOut{Turn: impl.Turn{List: []int64{6}, At: 1}, Node: 6, Seed: lastSeed}},
		{"nobody", impl.Turn{}, nil, 0, impl.TurnOut{Code: impl.ErrNone}},
		{"nobody, in a round", impl.Turn{List: round, At: 3}, []int64{}, lastSeed, impl.TurnOut{Code: impl.ErrNone}},
	} {
		wantTurn(t, c.what, c.turn, c.nodes, c.seed, c.want)
	}
}

// Every right Turn, with every right set of nodes.
func TestTurnNext(t *testing.T) {
	sets := nodeSets()[1:]
	i := 0
	eachTurn(func(turn impl.Turn) {
		for _, nodes := range sets {
			i++
			seed := rightSeeds[i%len(rightSeeds)]
			got, want := impl.TurnNext(turn, nodes, seed), turnByRule(turn, nodes, seed)
			if !sameTurn(got, want) {
				t.Fatalf("TurnNext of %+v, %v, %d: got %+v, want %+v", turn, nodes, seed, got, want)
			}
			if !impl.TurnRight(got.Turn) || listsShare(got.Turn.List, turn.List) || listsShare(got.Turn.List, nodes) {
				t.Fatalf("TurnNext of %+v, %v, %d: %+v is not right, or shares memory", turn, nodes, seed, got)
			}
		}
	})
}

// someTurns are some right Turns, and all of wrongTurns.
func someTurns() map[string]impl.Turn {
	turns := wrongTurns()
	turns["right, of none"] = impl.Turn{}
	turns["right, of one"] = impl.Turn{List: []int64{2}}
	turns["right, at its end"] = impl.Turn{List: []int64{1}, At: 1}
	turns["right, of six"] = impl.Turn{List: fullRound(), At: 3}
	turns["right, of six, at its end"] = impl.Turn{List: fullRound(), At: 6}
	return turns
}

// Which fault is told, where there are none, one, or several of them.
func TestTurnNextFaults(t *testing.T) {
	rights := map[string][]int64{"none": nil, "empty": {}, "one": {1}, "two": {2, 5}, "six": rising(6, 1, 1)}
	wrongs, longs, bad := wrongNodes(), longNodes(), wrongTurns()
	for what, turn := range someTurns() {
		_, turnIsBad := bad[what]
		for _, seed := range slices.Concat(rightSeeds, wrongSeeds) {
			seedIsBad := slices.Contains(wrongSeeds, seed)
			for name, nodes := range rights {
				want := impl.TurnOut{Code: impl.ErrForm}
				if !turnIsBad && !seedIsBad && len(nodes) == 0 {
					want.Code = impl.ErrNone
				} else if !turnIsBad && !seedIsBad {
					want = turnByRule(turn, nodes, seed)
				}
				wantTurn(t, what+", nodes "+name, turn, nodes, seed, want)
			}
			for name, nodes := range wrongs {
				wantTurn(t, what+", nodes "+name, turn, nodes, seed, impl.TurnOut{Code: impl.ErrForm})
			}
			// Too long is looked for ahead of all else.
			for name, nodes := range longs {
				wantTurn(t, what+", nodes "+name, turn, nodes, seed, impl.TurnOut{Code: impl.ErrSize})
			}
		}
	}
}

func TestSomeWritten(t *testing.T) {
	wantSome(t, "none of none", nil, 0, 7, impl.ShuffleOut{Seed: 7})
	wantSome(t, "six of none", []int64{}, 6, lastSeed, impl.ShuffleOut{Seed: lastSeed})
	wantSome(t, "none of one", []int64{4}, 0, 9, impl.ShuffleOut{Seed: 9})
	wantSome(t, "one of one", []int64{4}, 1, 9, impl.ShuffleOut{Seed: 9, List: []int64{4}})
	wantSome(t, "two of one", []int64{4}, 2, 9, impl.ShuffleOut{Seed: 9, List: []int64{4}})
	wantSome(t, "none of two", []int64{1, 2}, 0, 2, impl.ShuffleOut{Seed: 213637})
	wantSome(t, "one of two", []int64{1, 2}, 1, 2, impl.ShuffleOut{Seed: 213637, List: []int64{2}})
	wantSome(t, "two of two", []int64{1, 2}, 2, 2, impl.ShuffleOut{Seed: 213637, List: []int64{2, 1}})
	wantSome(t, "two of three", []int64{1, 2, 3}, 2, 0, impl.ShuffleOut{Seed: 607946306, List: []int64{2, 3}})
	wantSome(t, "MaxNodes of three", []int64{1, 2, 3}, 6, 0, impl.ShuffleOut{Seed: 607946306, List: []int64{2, 3, 1}})
}

func TestSome(t *testing.T) {
	for _, nodes := range nodeSets() {
		for many := int64(0); many <= impl.MaxNodes; many++ {
			for _, seed := range rightSeeds {
				wantSome(t, "right", nodes, many, seed, someByRule(nodes, many, seed))
			}
		}
	}
	r := rand.New(rand.NewSource(14))
	for range 5000 {
		nodes, many, seed := nodeSets()[r.Intn(1<<impl.MaxNodes)], r.Int63n(impl.MaxNodes+1), r.Int63n(lastSeed+1)
		wantSome(t, "right", nodes, many, seed, someByRule(nodes, many, seed))
	}
}

// What is added to an answer is not seen in another one.
func TestSomeMayBeAddedTo(t *testing.T) {
	nodes := rising(6, 1, 1)
	few := impl.Some(nodes, 2, 12345).List
	_ = append(few, -1, -2, -3)
	wantSome(t, "behind another one", nodes, 6, 12345, someByRule(nodes, 6, 12345))
	if !slices.Equal(nodes, rising(6, 1, 1)) {
		t.Errorf("what was handed in is now %v", nodes)
	}
}

func TestSomeRefused(t *testing.T) {
	wrongManys := []int64{math.MinInt64, -1, 7, 8, 256, 1 << 32, 1<<32 + 1, math.MaxInt64}
	manys := append([]int64{0, 1, 2, 6}, wrongManys...)
	for _, nodes := range [][]int64{nil, {}, {1}, {2, 5}, rising(6, 1, 1)} {
		for _, many := range manys {
			for _, seed := range slices.Concat(rightSeeds, wrongSeeds) {
				if slices.Contains(wrongManys, many) || slices.Contains(wrongSeeds, seed) {
					wantSome(t, "a wrong many or seed", nodes, many, seed, impl.ShuffleOut{})
				}
			}
		}
	}
	for _, lists := range []map[string][]int64{wrongNodes(), longNodes()} {
		for what, nodes := range lists {
			for _, many := range manys {
				for _, seed := range slices.Concat(rightSeeds, wrongSeeds) {
					wantSome(t, what, nodes, many, seed, impl.ShuffleOut{})
				}
			}
		}
	}
}

// turnsOf counts, by node, three times as many turns as there are nodes; each
// Turn is the one that was told, each seed the one that next tells of it.
func turnsOf(t *testing.T, turn impl.Turn, nodes []int64, seed int64, next func(int64) int64) [impl.MaxNodes + 1]int {
	t.Helper()
	var had [impl.MaxNodes + 1]int
	for range 3 * len(nodes) {
		out := impl.TurnNext(turn, nodes, seed)
		if out.Code != impl.OK || !slices.Contains(nodes, out.Node) || out.Turn.List[out.Turn.At-1] != out.Node {
			t.Fatalf("TurnNext of %+v, %v, %d: got %+v", turn, nodes, seed, out)
		}
		had[out.Node]++
		turn, seed = out.Turn, next(out.Seed)
	}
	return had
}

// Promise 8, from every right Turn, for every right set of nodes.
func TestEachHasItsTurnTwice(t *testing.T) {
	sets := nodeSets()[1:]
	handedOn := func(seed int64) int64 { return seed }
	i := 0
	eachTurn(func(turn impl.Turn) {
		for _, nodes := range sets {
			i++
			had := turnsOf(t, turn, nodes, int64(i)*2654435761&lastSeed, handedOn)
			for _, node := range nodes {
				if had[node] < 2 {
					t.Fatalf("from %+v on, of %v, node %d had its turn %d times", turn, nodes, node, had[node])
				}
			}
		}
	})
}

// Promise 8 does not hang on the seeds: here each is one of chance, or the same one.
func TestEachHasItsTurnTwiceWhateverTheSeeds(t *testing.T) {
	r := rand.New(rand.NewSource(15))
	sets := nodeSets()[1:]
	for _, next := range []func(int64) int64{
		func(int64) int64 { return r.Int63n(lastSeed + 1) },
		func(int64) int64 { return 0 },
		func(int64) int64 { return lastSeed },
	} {
		for range 5000 {
			nodes := sets[r.Intn(len(sets))]
			many := r.Intn(impl.MaxNodes + 1)
			turn := impl.Turn{At: r.Int63n(int64(many) + 1)}
			for _, n := range r.Perm(impl.MaxNodes)[:many] {
				turn.List = append(turn.List, int64(n)+1)
			}
			had := turnsOf(t, turn, nodes, next(0), next)
			for _, node := range nodes {
				if had[node] < 2 {
					t.Fatalf("from %+v on, of %v, node %d had its turn %d times", turn, nodes, node, had[node])
				}
			}
		}
	}
}

// From a Turn without a round on, each round has each node just once.
func TestRoundHasEachOnce(t *testing.T) {
	for _, nodes := range nodeSets()[1:] {
		turn, seed := impl.Turn{}, int64(77)
		for range 5 {
			var round []int64
			for range nodes {
				out := impl.TurnNext(turn, nodes, seed)
				round = append(round, out.Node)
				turn, seed = out.Turn, out.Seed
			}
			slices.Sort(round)
			if !slices.Equal(round, nodes) {
				t.Errorf("a round of %v: got %v", nodes, round)
			}
		}
	}
}
