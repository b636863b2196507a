package tests

import (
	"math"
	"math/rand"
	"reflect"
	"slices"
	"testing"

	"loop.example/g00678/impl"
)

// The bounds of times, and of a now of NodeWake and NodeHear, and what is beyond them.
var (
	rightTimes = []int64{0, 1, lastTime - 1, lastTime}
	wrongTimes = []int64{math.MinInt64, -1, lastTime + 1, 1 << 32, math.MaxInt64}
	lateNows   = []int64{math.MinInt64, -1, lastTime - 99, lastTime - 98, lastTime, lastTime + 1, 1 << 32, math.MaxInt64}
)

// rightNodes have each thing at its bounds.
func rightNodes() map[string]impl.Node {
	l := map[string]impl.Node{"plain": villager(), "busy": busy(), "left": leftOne(villager()), "busy, left": leftOne(busy())}
	put := func(what string, i int, change func(*impl.Node)) {
		l[what+" "+string(rune('a'+i))] = nodeWith(busy(), change)
	}
	for i, time := range rightTimes {
		put("Inc", i, func(n *impl.Node) { n.Inc, n.View[2].Inc = time, time })
		put("Num", i, func(n *impl.Node) { n.Num = time })
		put("Next", i, func(n *impl.Node) { n.Next = time })
		put("Num of the Probe", i, func(n *impl.Node) { n.Probe.Num = time })
		put("Due of the Probe", i, func(n *impl.Node) { n.Probe.Due = time })
		put("Inc of a Doubt", i, func(n *impl.Node) { n.Doubts[i%2].Inc = time })
		put("Due of a Doubt", i, func(n *impl.Node) { n.Doubts[i%2].Due = time })
	}
	for i, seed := range rightSeeds {
		put("Seed", i, func(n *impl.Node) { n.Seed = seed })
	}
	for i := range 6 {
		id := int64(i) + 1
		l["alone "+string(rune('a'+i))] = impl.Node{Id: id, Inc: 5, View: []impl.Fact{here(id, 5)}}
		var all []impl.Doubt
		for node := int64(1); node <= 6; node++ {
			if node != id {
				all = append(all, impl.Doubt{Node: node, Inc: node, Due: 300 - node})
				l["Probe of "+string(rune('0'+node))+" by "+string(rune('0'+id))] = impl.Node{Id: id, View: []impl.Fact{here(id, 0)}, Probe: impl.Probe{Node: node}}
			}
		}
		l["doubts all others "+string(rune('a'+i))] = impl.Node{Id: id, View: []impl.Fact{here(id, 0)}, Doubts: all}
	}
	put("no Probe", 0, func(n *impl.Node) { n.Probe = impl.Probe{} })
	put("a Probe of one that is not in View", 0, func(n *impl.Node) { n.Probe.Node = 4 })
	put("no Doubts", 0, func(n *impl.Node) { n.Doubts = nil })
	put("empty lists", 0, func(n *impl.Node) {
		n.Rumors, n.Turn, n.Doubts = []impl.Rumor{}, impl.Turn{List: []int64{}}, []impl.Doubt{}
	})
	put("rumors and a Turn of itself", 0, func(n *impl.Node) {
		n.Rumors, n.Turn = []impl.Rumor{rumorOf(gone(3, 99), 0)}, impl.Turn{List: []int64{3}}
	})
	return l
}

// wrongNodeChanges make a right one wrong, each by one thing.
func wrongNodeChanges() map[string]func(*impl.Node) {
	l := map[string]func(*impl.Node){
		"no View":                    func(n *impl.Node) { n.View = nil },
		"no own Fact":                func(n *impl.Node) { n.View = slices.Delete(n.View, 2, 3) },
		"no own Fact, in the life 0": func(n *impl.Node) { n.Inc, n.View = 0, slices.Delete(n.View, 2, 3) },
		"no View, in the life 0":     func(n *impl.Node) { n.Inc, n.View = 0, nil },
		"own Fact doubted":           func(n *impl.Node) { n.View[2].Status = impl.StDoubt },
		"own Fact of a lesser Inc":   func(n *impl.Node) { n.View[2].Inc-- },
		"own Fact of a greater":      func(n *impl.Node) { n.View[2].Inc++ },
		"gone, in another Inc":       func(n *impl.Node) { n.View[2] = gone(3, 8) },
		"the Id of another":          func(n *impl.Node) { n.Id = 1 },
		"the Id of one unknown":      func(n *impl.Node) { n.Id = 4 },
		"another Inc":                func(n *impl.Node) { n.Inc = 0 },
		"Probe of itself":            func(n *impl.Node) { n.Probe.Node = 3 },
		"Probe of nobody, but Num":   func(n *impl.Node) { n.Probe = impl.Probe{Num: 1} },
		"Probe of nobody, but Due":   func(n *impl.Node) { n.Probe = impl.Probe{Due: 1} },
		"Probe of nobody, Asked":     func(n *impl.Node) { n.Probe = impl.Probe{Asked: true} },
		"Doubt of itself, first":     func(n *impl.Node) { n.Doubts[0].Node = 3 },
		"Doubt of itself, last":      func(n *impl.Node) { n.Doubts[1].Node = 3 },
		"Doubts that fall":           func(n *impl.Node) { slices.Reverse(n.Doubts) },
		"Doubts of one twice":        func(n *impl.Node) { n.Doubts[0].Node = 5 },
		"the same Doubt twice":       func(n *impl.Node) { n.Doubts[1] = n.Doubts[0] },
		"Doubts that fall late":      func(n *impl.Node) { n.Doubts = append(n.Doubts, impl.Doubt{Node: 4}) },
		"MaxNodes Doubts, rising": func(n *impl.Node) {
			n.Doubts = []impl.Doubt{{Node: 1}, {Node: 2}, {Node: 3}, {Node: 4}, {Node: 5}, {Node: 6}}
		},
		"MaxNodes Doubts, of others": func(n *impl.Node) {
			n.Doubts = []impl.Doubt{{Node: 1}, {Node: 2}, {Node: 4}, {Node: 5}, {Node: 6}, {Node: 6}}
		},
		"one more than MaxNodes": func(n *impl.Node) { n.Doubts = make([]impl.Doubt, 7) },
		"more than MaxList":      func(n *impl.Node) { n.Doubts = make([]impl.Doubt, impl.MaxList+1) },
		"all wrong":              func(n *impl.Node) { *n = impl.Node{Id: -1, Inc: -1, Num: -1, Seed: -1, Next: -1} },
		"the zero one":           func(n *impl.Node) { *n = impl.Node{} },
	}
	putWrongNums(l)
	putWrongParts(l)
	return l
}

func putWrongNums(l map[string]func(*impl.Node)) {
	put := func(what string, i int, change func(*impl.Node)) {
		l[what+" "+string(rune('a'+i))] = change
	}
	for i, no := range noNodes {
		put("Id", i, func(n *impl.Node) { n.Id = no })
		put("Id, and no own Fact", i, func(n *impl.Node) { n.Id, n.Inc, n.View, n.Probe, n.Doubts = no, 0, nil, impl.Probe{}, nil })
		put("Node of the Probe", i, func(n *impl.Node) { n.Probe.Node = no })
		put("Node of the first Doubt", i, func(n *impl.Node) { n.Doubts[0].Node = no })
		put("Node of the last Doubt", i, func(n *impl.Node) { n.Doubts[1].Node = no })
	}
	for i, no := range wrongTimes {
		put("Inc", i, func(n *impl.Node) { n.Inc = no })
		put("Inc, in View too", i, func(n *impl.Node) { n.Inc, n.View[2].Inc = no, no })
		put("Num", i, func(n *impl.Node) { n.Num = no })
		put("Next", i, func(n *impl.Node) { n.Next = no })
		put("Num of the Probe", i, func(n *impl.Node) { n.Probe.Num = no })
		put("Due of the Probe", i, func(n *impl.Node) { n.Probe.Due = no })
		for at := range 2 {
			of := " of the Doubt " + string(rune('0'+at))
			put("Inc"+of, i, func(n *impl.Node) { n.Doubts[at].Inc = no })
			put("Due"+of, i, func(n *impl.Node) { n.Doubts[at].Due = no })
		}
	}
	for i, no := range wrongSeeds {
		put("Seed", i, func(n *impl.Node) { n.Seed = no })
	}
}

// putWrongParts puts a View, Rumors or a Turn that is not right; too many in these
// are not right, as they are fields.
func putWrongParts(l map[string]func(*impl.Node)) {
	for _, views := range []map[string][]impl.Fact{wrongViews(), longViews()} {
		for what, v := range views {
			l["View: "+what] = func(n *impl.Node) { n.View = v }
		}
	}
	for _, rumors := range []map[string][]impl.Rumor{wrongRumors(), longRumors()} {
		for what, x := range rumors {
			l["Rumors: "+what] = func(n *impl.Node) { n.Rumors = x }
		}
	}
	for what, turn := range wrongTurns() {
		l["Turn: "+what] = func(n *impl.Node) { n.Turn = turn }
	}
	for i, f := range wrongFacts() {
		l["a wrong Fact in View "+string(rune('a'+i))] = func(n *impl.Node) { n.View[0] = f }
		l["a wrong Fact in Rumors "+string(rune('a'+i))] = func(n *impl.Node) { n.Rumors[1].Fact = f }
	}
}

func TestNodeRight(t *testing.T) {
	if impl.AckWait != 3 || impl.DoubtWait != 12 || impl.Pace != 5 {
		t.Errorf("AckWait, DoubtWait, Pace: got %d, %d, %d", impl.AckWait, impl.DoubtWait, impl.Pace)
	}
	for what, n := range rightNodes() {
		arg := roomyNode(n)
		was := plainNodeOf(withRoom(arg))
		if !impl.NodeRight(arg) || impl.WakeAt(arg) < 0 {
			t.Errorf("NodeRight of %s: got false, of %+v", what, n)
		}
		if !reflect.DeepEqual(plainNodeOf(withRoom(arg)), was) {
			t.Errorf("NodeRight or WakeAt of %s: what was handed in was changed", what)
		}
	}
	r := rand.New(rand.NewSource(81))
	for range 3000 {
		if n := someNode(r, r.Int63n(lastTime)); !impl.NodeRight(n) {
			t.Fatalf("NodeRight of %+v: got false", n)
		}
	}
}

func TestNodeNotRight(t *testing.T) {
	refused := impl.NodeOut{Code: impl.ErrForm}
	for what, change := range wrongNodeChanges() {
		n := nodeWith(busy(), change)
		if impl.NodeRight(n) {
			t.Errorf("NodeRight of one with %s: got true", what)
		}
		if got := impl.WakeAt(n); got != -1 {
			t.Errorf("WakeAt of one with %s: got %d", what, got)
		}
		for kind := range int64(7) {
			wantDone(t, what, n, impl.Mail{Kind: kind, From: 2, To: 3, About: 4}, hearing(100), refused)
			wantDone(t, what, n, impl.Mail{Kind: kind, From: 2, To: 5, About: 4}, hearing(100), refused)
		}
		wantDone(t, what, n, impl.Mail{}, waking(100), refused)
		wantDone(t, what, n, impl.Mail{}, waking(-1), refused)
		wantDone(t, what, n, impl.Mail{}, meeting(1), refused)
		wantDone(t, what, n, impl.Mail{}, meeting(n.Id), refused)
		wantDone(t, what, n, impl.Mail{}, leaving, refused)
		// One that has left is refused likewise, if it is not right.
		left := nodeWith(leftOne(busy()), change)
		if !impl.NodeRight(left) {
			wantDone(t, what+", left", left, impl.Mail{}, waking(100), refused)
			wantDone(t, what+", left", left, plainMailTo3(impl.MlPing), hearing(100), refused)
			wantDone(t, what+", left", left, impl.Mail{}, leaving, refused)
		}
	}
}

func TestNodeNew(t *testing.T) {
	making := func(id int64, inc int64, seed int64, now int64) doing {
		return func(impl.Node, impl.Mail) impl.NodeOut { return impl.NodeNew(id, inc, seed, now) }
	}
	for id := int64(1); id <= 6; id++ {
		for _, time := range rightTimes {
			for _, seed := range rightSeeds {
				for _, now := range rightTimes {
					f := here(id, time)
					want := impl.Node{Id: id, Inc: time, Seed: seed, Next: now, View: []impl.Fact{f}, Rumors: []impl.Rumor{rumorOf(f, 0)}}
					wantDone(t, "NodeNew", impl.Node{}, impl.Mail{}, making(id, time, seed, now), impl.NodeOut{Node: want})
					if !impl.NodeRight(want) || impl.WakeAt(want) != now {
						t.Errorf("%+v is not right, or is to wake at %d", want, impl.WakeAt(want))
					}
				}
			}
		}
	}
	refused := func(id int64, inc int64, seed int64, now int64) {
		t.Helper()
		wantDone(t, "NodeNew of a wrong one", impl.Node{}, impl.Mail{}, making(id, inc, seed, now), impl.NodeOut{Code: impl.ErrForm})
	}
	for _, id := range noNodes {
		refused(id, 0, 0, 0)
		refused(id, lastTime, lastSeed, lastTime)
	}
	for _, no := range wrongTimes {
		refused(1, no, 0, 0)
		refused(6, 0, 0, no)
		refused(2, no, 0, no)
	}
	for _, seed := range wrongSeeds {
		refused(1, 0, seed, 0)
		refused(7, -1, seed, -1)
	}
}

func TestNodeMeet(t *testing.T) {
	n := villager()
	want := nodeWith(n, func(n *impl.Node) { n.Num = 41 })
	wantDone(t, "NodeMeet, written", n, impl.Mail{}, meeting(4), impl.NodeOut{Node: want, Mails: []impl.Mail{
		{Kind: impl.MlSync, From: 3, To: 4, Num: 41, Facts: n.View},
	}})
	for what, n := range rightNodes() {
		for other := int64(1); other <= 6; other++ {
			want := metByRule(n, other)
			if other == n.Id {
				want = impl.NodeOut{Code: impl.ErrForm}
			}
			wantDone(t, "NodeMeet, "+what, n, impl.Mail{}, meeting(other), want)
		}
		for _, other := range noNodes {
			wantDone(t, "NodeMeet of no node, "+what, n, impl.Mail{}, meeting(other), impl.NodeOut{Code: impl.ErrForm})
		}
	}
}

func TestWakeAt(t *testing.T) {
	for _, c := range []struct {
		what   string
		change func(*impl.Node)
		want   int64
	}{
		{"Next alone", func(n *impl.Node) {}, 200},
		{"Next, of 0", func(n *impl.Node) { n.Next = 0 }, 0},
		{"Next, the last time", func(n *impl.Node) { n.Next = lastTime }, lastTime},
		{"no Probe, whose Due is less", func(n *impl.Node) { n.Probe = impl.Probe{} }, 200},
		{"a Probe that is due first", func(n *impl.Node) { n.Probe = impl.Probe{Node: 1, Due: 199} }, 199},
		{"a Probe, Asked, that is due first", func(n *impl.Node) { n.Probe = impl.Probe{Node: 1, Due: 0, Asked: true} }, 0},
		{"a Probe that is due behind", func(n *impl.Node) { n.Probe = impl.Probe{Node: 1, Due: 201} }, 200},
		{"a Doubt that is due first", func(n *impl.Node) { n.Doubts = []impl.Doubt{{Node: 1, Due: 199}} }, 199},
		{"a Doubt that is due behind", func(n *impl.Node) { n.Doubts = []impl.Doubt{{Node: 1, Due: 201}} }, 200},
		{"the last Doubt", func(n *impl.Node) { n.Doubts = []impl.Doubt{{Node: 1, Due: 150}, {Node: 2, Due: 149}} }, 149},
		{"the first Doubt", func(n *impl.Node) { n.Doubts = []impl.Doubt{{Node: 1, Due: 149}, {Node: 2, Due: 150}} }, 149},
		{"the Probe of all", func(n *impl.Node) {
			n.Probe, n.Doubts = impl.Probe{Node: 1, Due: 7}, []impl.Doubt{{Node: 1, Due: 8}}
		}, 7},
		{"a Doubt of all", func(n *impl.Node) {
			n.Probe, n.Doubts = impl.Probe{Node: 1, Due: 7}, []impl.Doubt{{Node: 1, Due: 6}}
		}, 6},
	} {
		n := nodeWith(villager(), c.change)
		if got := impl.WakeAt(n); got != c.want {
			t.Errorf("WakeAt, %s: got %d, want %d", c.what, got, c.want)
		}
		// It is asked of one that has left, too.
		if got := impl.WakeAt(leftOne(n)); got != c.want {
			t.Errorf("WakeAt, %s, left: got %d, want %d", c.what, got, c.want)
		}
	}
}

// doneCase is a change that makes a villager what it is ahead, and one that
// makes of that what is wanted.
type doneCase struct {
	what   string
	ahead  func(*impl.Node)
	then   func(*impl.Node)
	mails  []impl.Mail
	missed int64
}

func wantWoken(t *testing.T, cases []doneCase) {
	t.Helper()
	for _, c := range cases {
		n := nodeWith(villager(), c.ahead)
		want := impl.NodeOut{Node: nodeWith(n, c.then), Mails: c.mails, Missed: c.missed}
		wantDone(t, "NodeWake, "+c.what, n, impl.Mail{}, waking(100), want)
		wantDone(t, "NodeWake, left, "+c.what, leftOne(n), impl.Mail{}, waking(100), impl.NodeOut{Node: leftOne(n)})
		if by := wokenByRule(n, 100); !reflect.DeepEqual(plainOutOf(by), plainOutOf(want)) {
			t.Errorf("NodeWake, %s: the rule wants %+v, what is written %+v", c.what, by, want)
		}
	}
}

func asIs(*impl.Node) {}

func TestNodeWakeDoubts(t *testing.T) {
	doubtOf := func(f impl.Fact, due int64) func(*impl.Node) {
		return func(n *impl.Node) {
			n.View, n.Doubts = impl.ViewPut(n.View, f).View, []impl.Doubt{{Node: f.Node, Inc: f.Inc, Due: due}}
		}
	}
	noDoubts := func(n *impl.Node) { n.Doubts = nil }
	twoGone := func(n *impl.Node) {
		n.View[1], n.Rumors, n.Doubts = gone(2, 0), []impl.Rumor{rumorOf(gone(2, 0), 0)}, nil
	}
	wantWoken(t, []doneCase{
		{"nothing is due", asIs, asIs, nil, 0},
		{"a Doubt that is just due", doubtOf(doubted(2, 0), 100), twoGone, nil, 0},
		{"a Doubt that was due", doubtOf(doubted(2, 0), 99), twoGone, nil, 0},
		{"a Doubt of long ago", doubtOf(doubted(2, 0), 0), twoGone, nil, 0},
		{"a Doubt that is not due yet", doubtOf(doubted(2, 0), 101), asIs, nil, 0},
		{"a Doubt of one that is here", doubtOf(here(2, 0), 100), noDoubts, nil, 0},
		{"a Doubt of one that is gone", doubtOf(gone(2, 0), 100), noDoubts, nil, 0},
		{"a Doubt of one that is not in View", func(n *impl.Node) { n.Doubts = []impl.Doubt{{Node: 4, Due: 100}} }, noDoubts, nil, 0},
		{"a Doubt of a lesser Inc", func(n *impl.Node) {
			n.View[1], n.Doubts = doubted(2, 1), []impl.Doubt{{Node: 2, Inc: 0, Due: 100}}
		}, noDoubts, nil, 0},
		{"a Doubt of a greater Inc", func(n *impl.Node) {
			n.View[1], n.Doubts = doubted(2, 1), []impl.Doubt{{Node: 2, Inc: 2, Due: 100}}
		}, noDoubts, nil, 0},
		{"two due, and rumors of both", func(n *impl.Node) {
			n.View[0], n.View[1], n.View[3] = doubted(1, 4), doubted(2, 0), doubted(5, 9)
			n.Doubts = []impl.Doubt{{Node: 1, Inc: 4, Due: 100}, {Node: 2, Inc: 0, Due: 101}, {Node: 5, Inc: 9, Due: 98}}
			n.Rumors = []impl.Rumor{rumorOf(doubted(5, 9), 2), rumorOf(here(2, 0), 3), rumorOf(doubted(1, 4), 1)}
		}, func(n *impl.Node) {
			n.View[0], n.View[3] = gone(1, 4), gone(5, 9)
			n.Doubts = []impl.Doubt{{Node: 2, Inc: 0, Due: 101}}
			n.Rumors = []impl.Rumor{rumorOf(here(2, 0), 3), rumorOf(gone(1, 4), 0), rumorOf(gone(5, 9), 0)}
		}, nil, 0},
		{"two due, of one of which View has otherwise", func(n *impl.Node) {
			n.View[3] = doubted(5, 9)
			n.Doubts = []impl.Doubt{{Node: 1, Inc: 4, Due: 100}, {Node: 5, Inc: 9, Due: 100}}
		}, func(n *impl.Node) {
			n.View[3], n.Doubts, n.Rumors = gone(5, 9), nil, []impl.Rumor{rumorOf(gone(5, 9), 0)}
		}, nil, 0},
	})
}

func ask(to int64) impl.Mail {
	return impl.Mail{Kind: impl.MlAsk, From: 3, To: to, Num: 39, About: 1}
}

func TestNodeWakeProbeAsks(t *testing.T) {
	probeDue := func(due int64, asked bool) func(*impl.Node) {
		return func(n *impl.Node) { n.Probe = impl.Probe{Node: 1, Num: 39, Due: due, Asked: asked} }
	}
	askedNow := func(n *impl.Node) { n.Probe.Asked, n.Probe.Due, n.Seed = true, 103, 213637 }
	wantWoken(t, []doneCase{
		{"a Probe that is just due", probeDue(100, false), askedNow, []impl.Mail{ask(5), ask(2)}, 0},
		{"a Probe that was due", probeDue(2, false), askedNow, []impl.Mail{ask(5), ask(2)}, 0},
		{"a Probe that is not due yet", probeDue(101, false), asIs, nil, 0},
		{"a Probe, Asked, that is not due yet", probeDue(101, true), asIs, nil, 0},
		{"two of three others are asked", func(n *impl.Node) {
			n.View, n.Seed, n.Probe = impl.ViewPut(n.View, doubted(4, 1)).View, 0, impl.Probe{Node: 1, Num: 39, Due: 100}
		}, func(n *impl.Node) {
			n.Probe.Asked, n.Probe.Due, n.Seed = true, 103, 607946306
		}, []impl.Mail{ask(4), ask(5)}, 0},
		{"one other alone", func(n *impl.Node) {
			n.View[1], n.Probe = gone(2, 0), impl.Probe{Node: 1, Num: 39, Due: 100}
		}, func(n *impl.Node) { n.Probe.Asked, n.Probe.Due = true, 103 }, []impl.Mail{ask(5)}, 0},
		{"a Probe of one that is not in View", func(n *impl.Node) {
			n.View, n.Probe = []impl.Fact{here(2, 0), here(3, 7)}, impl.Probe{Node: 1, Num: 39, Due: 100}
		}, func(n *impl.Node) { n.Probe.Asked, n.Probe.Due = true, 103 }, []impl.Mail{ask(2)}, 0},
		{"a Probe of one that is gone", func(n *impl.Node) {
			n.View[0], n.Probe = gone(1, 4), impl.Probe{Node: 1, Num: 39, Due: 100}
		}, askedNow, []impl.Mail{ask(5), ask(2)}, 0},
		{"who is asked is told with", func(n *impl.Node) {
			n.Probe = impl.Probe{Node: 1, Num: 39, Due: 100}
			n.Rumors = []impl.Rumor{rumorOf(here(5, 9), 0), rumorOf(here(2, 0), 3), rumorOf(here(1, 4), 1)}
		}, func(n *impl.Node) {
			askedNow(n)
			n.Rumors = []impl.Rumor{rumorOf(here(5, 9), 1), rumorOf(here(1, 4), 3)}
		}, []impl.Mail{
			withFacts(ask(5), []impl.Fact{here(1, 4), here(2, 0)}),
			withFacts(ask(2), []impl.Fact{here(1, 4), here(5, 9)}),
		}, 0},
	})
}

func TestNodeWakeProbeMisses(t *testing.T) {
	missing := func(asked bool, view ...impl.Fact) func(*impl.Node) {
		return func(n *impl.Node) {
			n.View, n.Probe = view, impl.Probe{Node: 1, Num: 39, Due: 100, Asked: asked}
		}
	}
	noProbe := func(n *impl.Node) { n.Probe = impl.Probe{} }
	oneDoubted := func(n *impl.Node) {
		n.View[0], n.Probe = doubted(1, 4), impl.Probe{}
		n.Rumors, n.Doubts = []impl.Rumor{rumorOf(doubted(1, 4), 0)}, []impl.Doubt{{Node: 1, Inc: 4, Due: 112}}
	}
	wantWoken(t, []doneCase{
		{"Asked, with others", missing(true, here(1, 4), here(2, 0), here(3, 7)), oneDoubted, nil, 1},
		{"Asked, without others", missing(true, here(1, 4), here(3, 7)), oneDoubted, nil, 1},
		{"not Asked, without others", missing(false, here(1, 4), here(3, 7)), oneDoubted, nil, 1},
		{"not Asked, all others gone", missing(false, here(1, 4), gone(2, 0), here(3, 7), gone(6, 2)), oneDoubted, nil, 1},
		{"of one that is doubted", missing(true, doubted(1, 4), here(3, 7)), noProbe, nil, 1},
		{"of one that is gone", missing(true, gone(1, 4), here(3, 7)), noProbe, nil, 1},
		{"of one that is not in View", missing(true, here(2, 0), here(3, 7)), noProbe, nil, 1},
		{"of one that is not in View, without others", missing(false, here(3, 7)), noProbe, nil, 1},
		{"of one that is doubted, a Doubt", func(n *impl.Node) {
			n.View[0], n.Doubts = doubted(1, 4), []impl.Doubt{{Node: 1, Inc: 4, Due: 101}}
			n.Probe = impl.Probe{Node: 1, Num: 39, Due: 100, Asked: true}
		}, noProbe, nil, 1},
		{"a Doubt that is of another life", func(n *impl.Node) {
			n.Doubts, n.Rumors = []impl.Doubt{{Node: 1, Inc: 2, Due: 101}}, []impl.Rumor{rumorOf(here(1, 4), 2), rumorOf(here(3, 7), 1)}
			n.Probe = impl.Probe{Node: 1, Num: 39, Due: 100, Asked: true}
		}, func(n *impl.Node) {
			oneDoubted(n)
			n.Rumors = []impl.Rumor{rumorOf(here(3, 7), 1), rumorOf(doubted(1, 4), 0)}
		}, nil, 1},
		{"a Doubt in its place among others", func(n *impl.Node) {
			n.View[0], n.View[3] = doubted(1, 4), doubted(5, 9)
			n.Doubts = []impl.Doubt{{Node: 1, Inc: 4, Due: 103}, {Node: 5, Inc: 9, Due: 101}}
			n.Probe = impl.Probe{Node: 2, Num: 39, Due: 100, Asked: true}
		}, func(n *impl.Node) {
			n.View[1], n.Probe, n.Rumors = doubted(2, 0), impl.Probe{}, []impl.Rumor{rumorOf(doubted(2, 0), 0)}
			n.Doubts = slices.Insert(n.Doubts, 1, impl.Doubt{Node: 2, Inc: 0, Due: 112})
		}, nil, 2},
	})
}

func ping(to int64, facts ...impl.Fact) impl.Mail {
	return impl.Mail{Kind: impl.MlPing, From: 3, To: to, Num: 41, Facts: facts}
}

func TestNodeWakeNext(t *testing.T) {
	nextDue := func(next int64) func(*impl.Node) { return func(n *impl.Node) { n.Next = next } }
	oneAsked := func(n *impl.Node) {
		n.Next, n.Num, n.Turn.At, n.Probe = 105, 41, 2, impl.Probe{Node: 1, Num: 41, Due: 103}
	}
	nextOnly := func(n *impl.Node) { n.Next = 105 }
	wantWoken(t, []doneCase{
		{"Next that is just due", nextDue(100), oneAsked, []impl.Mail{ping(1)}, 0},
		{"Next that was due", nextDue(99), oneAsked, []impl.Mail{ping(1)}, 0},
		{"Next of long ago", nextDue(0), oneAsked, []impl.Mail{ping(1)}, 0},
		{"Next that is not due yet", nextDue(101), asIs, nil, 0},
		{"with a Probe", func(n *impl.Node) { n.Next, n.Probe = 100, impl.Probe{Node: 5, Num: 39, Due: 101} }, nextOnly, nil, 0},
		{"with a Probe, Asked", func(n *impl.Node) {
			n.Next, n.Probe = 100, impl.Probe{Node: 5, Num: 39, Due: 101, Asked: true}
		}, nextOnly, nil, 0},
		{"nobody else", func(n *impl.Node) { n.Next, n.View = 100, []impl.Fact{here(3, 7)} }, nextOnly, nil, 0},
		{"all others gone", func(n *impl.Node) {
			n.Next, n.View = 100, []impl.Fact{gone(1, 4), gone(2, 0), here(3, 7), gone(5, 9)}
		}, nextOnly, nil, 0},
		{"one that is doubted is asked", func(n *impl.Node) { n.Next, n.View[0] = 100, doubted(1, 4) }, oneAsked, []impl.Mail{ping(1)}, 0},
		{"a new round", func(n *impl.Node) {
			n.Next, n.View, n.Turn = 100, []impl.Fact{here(1, 4), here(3, 7), here(5, 9)}, impl.Turn{List: []int64{5, 1}, At: 2}
		}, func(n *impl.Node) {
			n.Next, n.Num, n.Seed, n.Turn = 105, 41, 213637, impl.Turn{List: []int64{5, 1}, At: 1}
			n.Probe = impl.Probe{Node: 5, Num: 41, Due: 103}
		}, []impl.Mail{ping(5)}, 0},
		{"not itself, if the round has it", func(n *impl.Node) {
			n.Next, n.Turn = 100, impl.Turn{List: []int64{3, 6, 2}}
		}, func(n *impl.Node) {
			n.Next, n.Num, n.Turn.At, n.Probe = 105, 41, 3, impl.Probe{Node: 2, Num: 41, Due: 103}
		}, []impl.Mail{ping(2)}, 0},
		{"who is asked is told with", func(n *impl.Node) {
			n.Next = 100
			n.Rumors = []impl.Rumor{rumorOf(here(1, 4), 0), rumorOf(here(5, 9), 2), rumorOf(gone(6, 2), 3), rumorOf(here(3, 7), 1), rumorOf(here(2, 0), 3)}
		}, func(n *impl.Node) {
			oneAsked(n)
			n.Rumors = []impl.Rumor{rumorOf(here(1, 4), 0), rumorOf(here(5, 9), 3), rumorOf(here(3, 7), 2), rumorOf(here(2, 0), 3)}
		}, []impl.Mail{ping(1, here(3, 7), here(5, 9), gone(6, 2))}, 0},
	})
}

// What is done first is seen by what is done behind it.
func TestNodeWakeAllAtOnce(t *testing.T) {
	allDue := func(asked bool) func(*impl.Node) {
		return func(n *impl.Node) {
			n.View[1], n.Doubts = doubted(2, 0), []impl.Doubt{{Node: 2, Inc: 0, Due: 100}}
			n.Probe, n.Next = impl.Probe{Node: 1, Num: 39, Due: 100, Asked: asked}, 100
		}
	}
	twoGone := rumorOf(gone(2, 0), 1)
	wantWoken(t, []doneCase{
		{"a Probe, Asked", allDue(true), func(n *impl.Node) {
			n.View[0], n.View[1], n.Doubts = doubted(1, 4), gone(2, 0), []impl.Doubt{{Node: 1, Inc: 4, Due: 112}}
			n.Rumors = []impl.Rumor{twoGone, rumorOf(doubted(1, 4), 0)}
			n.Next, n.Num, n.Turn.At, n.Probe = 105, 41, 2, impl.Probe{Node: 1, Num: 41, Due: 103}
		}, []impl.Mail{ping(1, gone(2, 0))}, 1},
		{"a Probe, not Asked", allDue(false), func(n *impl.Node) {
			n.View[1], n.Doubts, n.Rumors = gone(2, 0), nil, []impl.Rumor{twoGone}
			n.Next, n.Probe = 105, impl.Probe{Node: 1, Num: 39, Due: 103, Asked: true}
		}, []impl.Mail{withFacts(ask(5), []impl.Fact{gone(2, 0)})}, 0},
		{"a Probe, not Asked, the only other one gone just now", func(n *impl.Node) {
			allDue(false)(n)
			n.View = []impl.Fact{here(1, 4), doubted(2, 0), here(3, 7)}
		}, func(n *impl.Node) {
			n.View[0], n.View[1], n.Doubts = doubted(1, 4), gone(2, 0), []impl.Doubt{{Node: 1, Inc: 4, Due: 112}}
			n.Rumors = []impl.Rumor{twoGone, rumorOf(doubted(1, 4), 0)}
			n.Next, n.Num, n.Turn.At, n.Probe = 105, 41, 2, impl.Probe{Node: 1, Num: 41, Due: 103}
		}, []impl.Mail{ping(1, gone(2, 0))}, 1},
		{"the one that is asked gone just now", func(n *impl.Node) {
			allDue(true)(n)
			n.Probe.Node = 2
		}, func(n *impl.Node) {
			n.View[1], n.Doubts, n.Rumors = gone(2, 0), nil, []impl.Rumor{twoGone}
			n.Next, n.Num, n.Turn.At, n.Probe = 105, 41, 2, impl.Probe{Node: 1, Num: 41, Due: 103}
		}, []impl.Mail{ping(1, gone(2, 0))}, 2},
	})
}

func TestNodeWakeNow(t *testing.T) {
	for _, now := range []int64{0, 1, lastTime - 101, lastTime - 100} {
		for what, n := range rightNodes() {
			if n.Num < lastTime {
				wantDone(t, "NodeWake, "+what, n, impl.Mail{}, waking(now), wokenByRule(n, now))
			}
		}
	}
	for _, now := range lateNows {
		for what, n := range rightNodes() {
			wantDone(t, "NodeWake at a wrong time, "+what, n, impl.Mail{}, waking(now), impl.NodeOut{Code: impl.ErrForm})
		}
	}
	// The last time at which one may wake makes all due at times.
	late := nodeWith(busy(), func(n *impl.Node) { n.Next, n.View[0] = 0, here(1, lastTime) })
	got := impl.NodeWake(late, lastTime-100)
	if want := lastTime - int64(100) + 3; got.Node.Probe.Due != want || got.Node.Next != want+2 || got.Node.Doubts[0].Due != want+9 || !impl.NodeRight(got.Node) {
		t.Errorf("NodeWake at the last time: got %+v", got)
	}
}

// plainMailTo3 is a right one of that kind from 2 to 3, without Facts.
func plainMailTo3(kind int64) impl.Mail {
	m := impl.Mail{Kind: kind, From: 2, To: 3, Num: 39}
	if kind == impl.MlAck || kind == impl.MlAsk {
		m.About = 1
	}
	return m
}

func tellTo3(facts ...impl.Fact) impl.Mail {
	return withFacts(plainMailTo3(impl.MlTell), facts)
}

// heardCase is a mail, and who hears it.
type heardCase struct {
	doneCase
	mail impl.Mail
}

func wantHeard(t *testing.T, cases []heardCase) {
	t.Helper()
	for _, c := range cases {
		n := nodeWith(villager(), c.ahead)
		want := impl.NodeOut{Node: nodeWith(n, c.then), Mails: c.mails}
		wantDone(t, "NodeHear, "+c.what, n, c.mail, hearing(50), want)
		wantDone(t, "NodeHear, left, "+c.what, leftOne(n), c.mail, hearing(50), impl.NodeOut{Node: leftOne(n)})
		if by := heardByRule(n, c.mail, 50); !reflect.DeepEqual(plainOutOf(by), plainOutOf(want)) {
			t.Errorf("NodeHear, %s: the rule wants %+v, what is written %+v", c.what, by, want)
		}
	}
}

func TestNodeLearnsOfOthers(t *testing.T) {
	rumored := func(n *impl.Node, f impl.Fact) { n.Rumors = append(n.Rumors, rumorOf(f, 0)) }
	oneDoubted := func(n *impl.Node) { n.View[0], n.Doubts = doubted(1, 4), []impl.Doubt{{Node: 1, Inc: 4, Due: 55}} }
	learned := func(what string, ahead func(*impl.Node), then func(*impl.Node), facts ...impl.Fact) heardCase {
		return heardCase{doneCase{what: what, ahead: ahead, then: then}, tellTo3(facts...)}
	}
	wantHeard(t, []heardCase{
		learned("nothing", asIs, asIs),
		learned("what it holds", asIs, asIs, here(1, 4), here(5, 9), gone(6, 2)),
		learned("a lesser Inc", asIs, asIs, gone(1, 3), gone(5, 8)),
		learned("a lesser Status", asIs, asIs, doubted(6, 2)),
		learned("one unknown, here", asIs, func(n *impl.Node) {
			n.View = slices.Insert(n.View, 3, here(4, 0))
			rumored(n, here(4, 0))
		}, here(4, 0)),
		learned("one unknown, gone", asIs, func(n *impl.Node) {
			n.View = slices.Insert(n.View, 3, gone(4, lastTime))
			rumored(n, gone(4, lastTime))
		}, gone(4, lastTime)),
		learned("one unknown, doubted", asIs, func(n *impl.Node) {
			n.View, n.Doubts = slices.Insert(n.View, 3, doubted(4, 6)), []impl.Doubt{{Node: 4, Inc: 6, Due: 62}}
			rumored(n, doubted(4, 6))
		}, doubted(4, 6)),
		learned("one that is here again", asIs, func(n *impl.Node) {
			n.View[4] = here(6, 3)
			rumored(n, here(6, 3))
		}, here(6, 3)),
		learned("one doubted of its Inc", asIs, func(n *impl.Node) {
			n.View[0], n.Doubts = doubted(1, 4), []impl.Doubt{{Node: 1, Inc: 4, Due: 62}}
			rumored(n, doubted(1, 4))
		}, doubted(1, 4)),
		learned("one doubted of a greater Inc", asIs, func(n *impl.Node) {
			n.View[0], n.Doubts = doubted(1, 6), []impl.Doubt{{Node: 1, Inc: 6, Due: 62}}
			rumored(n, doubted(1, 6))
		}, doubted(1, 6)),
		learned("a Doubt ended by a life", oneDoubted, func(n *impl.Node) {
			n.View[0], n.Doubts = here(1, 5), nil
			rumored(n, here(1, 5))
		}, here(1, 5)),
		learned("a Doubt ended by one that is gone", oneDoubted, func(n *impl.Node) {
			n.View[0], n.Doubts = gone(1, 4), nil
			rumored(n, gone(1, 4))
		}, gone(1, 4)),
		learned("a Doubt begun anew", oneDoubted, func(n *impl.Node) {
			n.View[0], n.Doubts[0] = doubted(1, 5), impl.Doubt{Node: 1, Inc: 5, Due: 62}
			rumored(n, doubted(1, 5))
		}, doubted(1, 5)),
		learned("a Doubt told again", oneDoubted, asIs, doubted(1, 4)),
		learned("a Doubt that is not of what is told", oneDoubted, asIs, here(1, 4)),
		learned("a Doubt of a life of which View has no more", func(n *impl.Node) {
			n.Doubts = []impl.Doubt{{Node: 1, Inc: 3, Due: 51}, {Node: 2, Inc: 0, Due: 52}}
		}, func(n *impl.Node) {
			n.View[0], n.Doubts = here(1, 5), n.Doubts[1:]
			rumored(n, here(1, 5))
		}, here(1, 5)),
		learned("a Doubt that is due stays till it wakes", func(n *impl.Node) {
			n.View[0], n.Doubts = doubted(1, 4), []impl.Doubt{{Node: 1, Inc: 4, Due: 0}}
		}, asIs, here(2, 0)),
		learned("many, in their places", func(n *impl.Node) {
			n.View[1], n.Doubts = doubted(2, 0), []impl.Doubt{{Node: 2, Inc: 0, Due: 53}}
			n.Rumors = []impl.Rumor{rumorOf(here(5, 9), 3), rumorOf(doubted(2, 0), 1), rumorOf(here(1, 4), 2)}
		}, func(n *impl.Node) {
			n.View = []impl.Fact{doubted(1, 4), doubted(2, 0), here(3, 7), doubted(4, 1), doubted(5, 10), gone(6, 2)}
			n.Doubts = []impl.Doubt{{Node: 1, Inc: 4, Due: 62}, {Node: 2, Inc: 0, Due: 53}, {Node: 4, Inc: 1, Due: 62}, {Node: 5, Inc: 10, Due: 62}}
			n.Rumors = []impl.Rumor{rumorOf(doubted(2, 0), 1), rumorOf(doubted(1, 4), 0), rumorOf(doubted(4, 1), 0), rumorOf(doubted(5, 10), 0)}
		}, doubted(1, 4), doubted(2, 0), here(3, 7), doubted(4, 1), doubted(5, 10), gone(6, 2)),
	})
}

func TestNodeLearnsOfItself(t *testing.T) {
	livesIn := func(inc int64) func(*impl.Node) {
		return func(n *impl.Node) {
			n.Inc, n.View[2].Inc, n.Rumors = inc, inc, []impl.Rumor{rumorOf(here(3, 7), 3), rumorOf(here(1, 4), 3)}
		}
	}
	nowIn := func(inc int64) func(*impl.Node) {
		return func(n *impl.Node) {
			n.Inc, n.View[2].Inc, n.Rumors = inc, inc, []impl.Rumor{rumorOf(here(1, 4), 3), rumorOf(here(3, inc), 0)}
		}
	}
	told := func(what string, inc int64, then func(*impl.Node), facts ...impl.Fact) heardCase {
		return heardCase{doneCase{what: what, ahead: livesIn(inc), then: then}, tellTo3(facts...)}
	}
	wantHeard(t, []heardCase{
		told("here, of its Inc", 7, asIs, here(3, 7)),
		told("here, of a lesser Inc", 7, asIs, here(3, 6)),
		told("here, of a greater Inc", 7, asIs, here(3, 8)),
		told("here, of the Inc MaxTime", 7, asIs, here(3, lastTime)),
		told("doubted, of a lesser Inc", 7, asIs, doubted(3, 6)),
		told("gone, of a lesser Inc", 7, asIs, gone(3, 6)),
		told("gone, of the least Inc", 7, asIs, gone(3, 0)),
		told("doubted, of its Inc", 7, nowIn(8), doubted(3, 7)),
		told("gone, of its Inc", 7, nowIn(8), gone(3, 7)),
		told("doubted, of one more", 7, nowIn(9), doubted(3, 8)),
		told("gone, of a greater Inc", 7, nowIn(101), gone(3, 100)),
		told("doubted, in the life 0", 0, nowIn(1), doubted(3, 0)),
		told("gone, of the last Inc but one", 7, nowIn(lastTime), gone(3, lastTime-1)),
		told("doubted, of the Inc MaxTime", 7, asIs, doubted(3, lastTime)),
		told("gone, of the Inc MaxTime", 7, asIs, gone(3, lastTime)),
		told("doubted, in the last life", lastTime, asIs, doubted(3, lastTime)),
		told("gone, in the last life", lastTime, asIs, gone(3, lastTime)),
		told("gone, in the last life, of one less", lastTime, asIs, gone(3, lastTime-1)),
		told("between others", 7, func(n *impl.Node) {
			n.Inc, n.View = 8, []impl.Fact{here(1, 4), gone(2, 0), here(3, 8), here(5, 11), gone(6, 2)}
			n.Rumors = []impl.Rumor{rumorOf(here(1, 4), 3), rumorOf(gone(2, 0), 0), rumorOf(here(3, 8), 0), rumorOf(here(5, 11), 0)}
		}, gone(2, 0), doubted(3, 7), here(5, 11)),
	})
}

func TestNodeHearsPingAndAsk(t *testing.T) {
	heard := func(what string, mail impl.Mail, ahead func(*impl.Node), then func(*impl.Node), mails ...impl.Mail) heardCase {
		return heardCase{doneCase{what: what, ahead: ahead, then: then, mails: mails}, mail}
	}
	pingFor := func(node int64) impl.Mail { return impl.Mail{Kind: impl.MlPing, From: 2, To: 3, Num: 9, For: node} }
	ackFor := func(node int64) impl.Mail {
		return impl.Mail{Kind: impl.MlAck, From: 3, To: 2, Num: 9, About: 3, For: node}
	}
	asked := func(about int64) impl.Mail { return impl.Mail{Kind: impl.MlAsk, From: 2, To: 3, Num: 9, About: about} }
	pinged := func(about int64) impl.Mail { return impl.Mail{Kind: impl.MlPing, From: 3, To: about, Num: 9, For: 2} }
	some := []impl.Rumor{rumorOf(here(2, 0), 0), rumorOf(here(5, 9), 0), rumorOf(here(3, 7), 0)}
	withSome := func(n *impl.Node) { n.Rumors = some }
	wantHeard(t, []heardCase{
		heard("an MlPing", pingFor(0), asIs, asIs, ackFor(0)),
		heard("an MlPing for another", pingFor(5), asIs, asIs, ackFor(5)),
		heard("an MlPing for who sent it", pingFor(2), asIs, asIs, ackFor(2)),
		heard("an MlPing for itself", pingFor(3), asIs, asIs, ackFor(3)),
		heard("an MlPing of the last Num", impl.Mail{Kind: impl.MlPing, From: 2, To: 3, Num: lastTime}, asIs, asIs, impl.Mail{Kind: impl.MlAck, From: 3, To: 2, Num: lastTime, About: 3}),
		heard("an MlPing with Facts", withFacts(pingFor(5), []impl.Fact{gone(1, 4), doubted(3, 7)}), withSome, func(n *impl.Node) {
			n.Inc, n.View[0], n.View[2] = 8, gone(1, 4), here(3, 8)
			n.Rumors = []impl.Rumor{rumorOf(here(2, 0), 0), rumorOf(here(5, 9), 1), rumorOf(gone(1, 4), 1), rumorOf(here(3, 8), 1)}
		}, withFacts(ackFor(5), []impl.Fact{gone(1, 4), here(3, 8), here(5, 9)})),
		heard("an MlPing by one that is gone", pingFor(0), func(n *impl.Node) { n.View[1] = gone(2, 0) }, asIs, ackFor(0)),
		heard("an MlPing, with a Probe of that", pingFor(0), func(n *impl.Node) { n.Probe = impl.Probe{Node: 2, Num: 9, Due: 60} }, asIs, ackFor(0)),
		heard("an MlAsk", asked(1), asIs, asIs, pinged(1)),
		heard("an MlAsk about one unknown", asked(4), asIs, asIs, pinged(4)),
		heard("an MlAsk about one that is gone", asked(6), asIs, asIs, pinged(6)),
		heard("an MlAsk with Facts", withFacts(asked(5), []impl.Fact{doubted(5, 9)}), withSome, func(n *impl.Node) {
			n.View[3], n.Doubts = doubted(5, 9), []impl.Doubt{{Node: 5, Inc: 9, Due: 62}}
			n.Rumors = []impl.Rumor{rumorOf(here(2, 0), 1), rumorOf(here(3, 7), 1), rumorOf(doubted(5, 9), 0)}
		}, withFacts(pinged(5), []impl.Fact{here(2, 0), here(3, 7)})),
		heard("an MlAsk about whom it asks itself", asked(1), func(n *impl.Node) { n.Probe = impl.Probe{Node: 1, Num: 9, Due: 60} }, asIs, pinged(1)),
	})
}

func TestNodeHearsAck(t *testing.T) {
	withProbe := func(n *impl.Node) { n.Probe = impl.Probe{Node: 1, Num: 39, Due: 60} }
	probeAsked := func(n *impl.Node) { n.Probe = impl.Probe{Node: 1, Num: 39, Due: 0, Asked: true} }
	noProbe := func(n *impl.Node) { n.Probe = impl.Probe{} }
	ack := func(num int64, about int64, node int64) impl.Mail {
		return impl.Mail{Kind: impl.MlAck, From: 2, To: 3, Num: num, About: about, For: node}
	}
	sentOn := func(to int64) impl.Mail { return impl.Mail{Kind: impl.MlAck, From: 3, To: to, Num: 39, About: 1} }
	heard := func(what string, mail impl.Mail, ahead func(*impl.Node), then func(*impl.Node), mails ...impl.Mail) heardCase {
		return heardCase{doneCase{what: what, ahead: ahead, then: then, mails: mails}, mail}
	}
	wantHeard(t, []heardCase{
		heard("that of the Probe", ack(39, 1, 0), withProbe, noProbe),
		heard("that of the Probe, for itself", ack(39, 1, 3), withProbe, noProbe),
		heard("that of the Probe, Asked", ack(39, 1, 0), probeAsked, noProbe),
		heard("that of the Probe, which is late", ack(39, 1, 3), probeAsked, noProbe),
		heard("one Num less", ack(38, 1, 0), withProbe, asIs),
		heard("one Num more", ack(40, 1, 0), withProbe, asIs),
		heard("another About", ack(39, 2, 0), withProbe, asIs),
		heard("about itself", ack(39, 3, 0), withProbe, asIs),
		heard("without a Probe", ack(39, 1, 0), asIs, asIs),
		heard("without a Probe, of Num 0", ack(0, 1, 3), asIs, asIs),
		heard("for another", ack(39, 1, 5), asIs, asIs, sentOn(5)),
		heard("for another, of the Probe", ack(39, 1, 5), withProbe, asIs, sentOn(5)),
		heard("for who sent it", ack(39, 1, 2), withProbe, asIs, sentOn(2)),
		heard("for whom it is about", ack(39, 1, 1), withProbe, asIs, sentOn(1)),
		heard("for one unknown", ack(39, 1, 4), asIs, asIs, sentOn(4)),
		heard("of the Probe, with Facts", withFacts(ack(39, 1, 0), []impl.Fact{here(1, 5)}), withProbe, func(n *impl.Node) {
			n.Probe, n.View[0], n.Rumors = impl.Probe{}, here(1, 5), []impl.Rumor{rumorOf(here(1, 5), 0)}
		}),
		heard("for another, with Facts", withFacts(ack(39, 1, 5), []impl.Fact{here(1, 5), here(5, 10)}), withProbe, func(n *impl.Node) {
			n.View[0], n.View[3] = here(1, 5), here(5, 10)
			n.Rumors = []impl.Rumor{rumorOf(here(1, 5), 1), rumorOf(here(5, 10), 0)}
		}, withFacts(sentOn(5), []impl.Fact{here(1, 5)})),
	})
}

func TestNodeHearsSyncAndTell(t *testing.T) {
	some := []impl.Rumor{rumorOf(here(5, 9), 2)}
	six := []impl.Fact{gone(1, 4), here(2, 1), doubted(3, 9), here(4, 0), here(5, 9), gone(6, 3)}
	learned := func(n *impl.Node) {
		n.Inc, n.View = 10, []impl.Fact{gone(1, 4), here(2, 1), here(3, 10), here(4, 0), here(5, 9), gone(6, 3)}
		n.Rumors = []impl.Rumor{rumorOf(here(5, 9), 2), rumorOf(gone(1, 4), 0), rumorOf(here(2, 1), 0), rumorOf(here(3, 10), 0), rumorOf(here(4, 0), 0), rumorOf(gone(6, 3), 0)}
	}
	withSome := func(n *impl.Node) { n.Rumors = some }
	answer := impl.Mail{Kind: impl.MlTell, From: 3, To: 2, Num: 39}
	all := nodeWith(villager(), learned).View
	wantHeard(t, []heardCase{
		{doneCase{"an MlSync of nothing", withSome, asIs, []impl.Mail{withFacts(answer, villager().View)}, 0}, plainMailTo3(impl.MlSync)},
		{doneCase{"an MlSync", withSome, learned, []impl.Mail{withFacts(answer, all)}, 0}, withFacts(plainMailTo3(impl.MlSync), six)},
		{doneCase{"an MlTell of nothing", withSome, asIs, nil, 0}, plainMailTo3(impl.MlTell)},
		{doneCase{"an MlTell", withSome, learned, nil, 0}, tellTo3(six...)},
		{doneCase{"an MlTell of the Num of the Probe", func(n *impl.Node) { n.Probe = impl.Probe{Node: 2, Num: 39, Due: 60} }, asIs, nil, 0}, tellTo3()},
	})
}

func TestNodeHearFaults(t *testing.T) {
	form, none := impl.NodeOut{Code: impl.ErrForm}, impl.NodeOut{Code: impl.ErrNone}
	wrongs := map[string]func(*impl.Mail){
		"no kind":             func(m *impl.Mail) { m.Kind = 0 },
		"one kind too many":   func(m *impl.Mail) { m.Kind = 6 },
		"a kind far below":    func(m *impl.Mail) { m.Kind = math.MinInt64 },
		"from itself":         func(m *impl.Mail) { m.From = m.To },
		"from nobody":         func(m *impl.Mail) { m.From = 0 },
		"to nobody":           func(m *impl.Mail) { m.To = 0 },
		"a Num below":         func(m *impl.Mail) { m.Num = -1 },
		"a Num above":         func(m *impl.Mail) { m.Num = lastTime + 1 },
		"about a wrong node":  func(m *impl.Mail) { m.About = 7 },
		"for a wrong node":    func(m *impl.Mail) { m.For = 7 },
		"a wrong Fact":        func(m *impl.Mail) { m.Facts = []impl.Fact{fact(1, 0, 4)} },
		"Facts that fall":     func(m *impl.Mail) { m.Facts = []impl.Fact{here(2, 0), here(1, 0)} },
		"more than MaxList":   func(m *impl.Mail) { m.Facts = make([]impl.Fact, impl.MaxList+1) },
		"one Fact too many":   func(m *impl.Mail) { m.Facts = append(edgeRanks()[1].view(), here(6, 0)) },
		"the zero one":        func(m *impl.Mail) { *m = impl.Mail{} },
		"an MlAsk for one":    func(m *impl.Mail) { m.Kind, m.About, m.For = impl.MlAsk, 1, 1 },
		"an MlAsk about it":   func(m *impl.Mail) { m.Kind, m.About = impl.MlAsk, m.To },
		"an MlAsk about From": func(m *impl.Mail) { m.Kind, m.About = impl.MlAsk, m.From },
		"an MlAsk, nobody":    func(m *impl.Mail) { m.Kind, m.About = impl.MlAsk, 0 },
		"an MlAck, nobody":    func(m *impl.Mail) { m.Kind, m.About = impl.MlAck, 0 },
		"an MlPing about one": func(m *impl.Mail) { m.Kind, m.About = impl.MlPing, 1 },
		"an MlSync about one": func(m *impl.Mail) { m.Kind, m.About = impl.MlSync, 1 },
		"an MlTell for one":   func(m *impl.Mail) { m.Kind, m.For = impl.MlTell, 1 },
		"an MlPing of four":   func(m *impl.Mail) { m.Kind, m.About, m.Facts = impl.MlPing, 0, edgeRanks()[1].view()[:4] },
	}
	for _, n := range []impl.Node{villager(), busy(), leftOne(busy())} {
		for _, kind := range allKinds {
			for what, change := range wrongs {
				m := plainMailTo3(kind)
				change(&m)
				wantDone(t, "NodeHear, "+what, n, m, hearing(50), form)
				m.To = 5
				if what != "to nobody" && !impl.MailRight(m) {
					wantDone(t, "NodeHear, not to it, "+what, n, m, hearing(50), form)
				}
			}
			for _, now := range lateNows {
				wantDone(t, "NodeHear at a wrong time", n, plainMailTo3(kind), hearing(now), form)
			}
			for _, to := range []int64{1, 4, 5, 6} {
				m := plainMailTo3(kind)
				m.From, m.To = 2, to
				if kind == impl.MlAsk {
					m.About = 3
				}
				for _, now := range []int64{0, 50, lastTime - 100} {
					wantDone(t, "NodeHear of what is not to it", n, m, hearing(now), none)
				}
				for _, now := range lateNows {
					wantDone(t, "NodeHear of what is not to it, at a wrong time", n, m, hearing(now), form)
				}
			}
			for _, now := range []int64{0, 1, lastTime - 101, lastTime - 100} {
				m := withFacts(plainMailTo3(kind), []impl.Fact{doubted(1, 99), doubted(3, 7)})
				wantDone(t, "NodeHear", n, m, hearing(now), heardByRule(n, m, now))
			}
		}
	}
}

func TestNodeLeave(t *testing.T) {
	tell := func(n impl.Node, to int64) impl.Mail {
		return impl.Mail{Kind: impl.MlTell, From: n.Id, To: to, Num: n.Num, Facts: n.View}
	}
	n := nodeWith(villager(), func(n *impl.Node) { n.View[2], n.Num = gone(3, 7), 41 })
	wantDone(t, "NodeLeave, plain", villager(), impl.Mail{}, leaving, impl.NodeOut{Node: n, Mails: []impl.Mail{tell(n, 1), tell(n, 2), tell(n, 5)}})
	n = nodeWith(busy(), func(n *impl.Node) { n.View[2], n.Num = gone(3, 7), 41 })
	wantDone(t, "NodeLeave, busy", busy(), impl.Mail{}, leaving, impl.NodeOut{Node: n, Mails: []impl.Mail{tell(n, 1), tell(n, 2), tell(n, 5)}})
	alone := impl.NodeNew(6, lastTime, 5, 9).Node
	n = nodeWith(alone, func(n *impl.Node) { n.View[0], n.Num = gone(6, lastTime), 1 })
	wantDone(t, "NodeLeave, alone", alone, impl.Mail{}, leaving, impl.NodeOut{Node: n})
	for what, n := range rightNodes() {
		wantDone(t, "NodeLeave, "+what, n, impl.Mail{}, leaving, partedByRule(n))
		wantDone(t, "NodeLeave, left, "+what, leftOne(n), impl.Mail{}, leaving, impl.NodeOut{Code: impl.ErrState})
	}
}

// Of one that has left nothing is done, whatever is due, and whatever it hears.
func TestNodeThatHasLeft(t *testing.T) {
	r := rand.New(rand.NewSource(82))
	for range 2000 {
		now := r.Int63n(lastTime - 99)
		n := leftOne(someNode(r, now))
		wantDone(t, "NodeWake, left", n, impl.Mail{}, waking(now), impl.NodeOut{Node: n})
		m := someMailFor(r, n)
		want := impl.NodeOut{Node: n}
		if m.To != n.Id {
			want = impl.NodeOut{Code: impl.ErrNone}
		}
		wantDone(t, "NodeHear, left", n, m, hearing(now), want)
	}
}

// A Num is one more, as is said, also where it is MaxTime: no code is named for it.
func TestNodeNumAtItsEnd(t *testing.T) {
	last := nodeWith(villager(), func(n *impl.Node) { n.Num, n.Next = lastTime, 100 })
	for what, call := range map[string]doing{"NodeMeet": meeting(1), "NodeWake": waking(100), "NodeLeave": leaving} {
		got := call(last, impl.Mail{})
		if got.Code != impl.OK || got.Node.Num != lastTime+1 || got.Mails[0].Num != lastTime+1 {
			t.Errorf("%s with the last Num: got %+v", what, got)
		}
	}
	if got := impl.NodeHear(last, plainMailTo3(impl.MlPing), 100); got.Node.Num != lastTime || !impl.NodeRight(got.Node) {
		t.Errorf("NodeHear with the last Num: got %+v", got)
	}
}

// Many right nodes, of which much is due, held against the rule.
func TestNodeByRule(t *testing.T) {
	r := rand.New(rand.NewSource(83))
	nows := []int64{0, 1, 7, 100, lastTime - 101, lastTime - 100}
	for i := range 12000 {
		now := nows[i%len(nows)]
		n := someNode(r, now)
		wantDone(t, "NodeWake", n, impl.Mail{}, waking(now), wokenByRule(n, now))
		m := someMailFor(r, n)
		wantDone(t, "NodeHear", n, m, hearing(now), heardByRule(n, m, now))
		if i%4 == 0 {
			other := otherThan(r, n.Id)
			wantDone(t, "NodeMeet", n, impl.Mail{}, meeting(other), metByRule(n, other))
			wantDone(t, "NodeLeave", n, impl.Mail{}, leaving, partedByRule(n))
		}
	}
}

// wantGrown looks for promise 9, and that what is sent is right.
func wantGrown(t *testing.T, what string, was impl.Node, out impl.NodeOut) {
	t.Helper()
	if out.Code != impl.OK || !impl.NodeRight(out.Node) {
		t.Fatalf("%s of %+v: got %+v, which is not right", what, was, out)
	}
	if out.Node.Id != was.Id || out.Node.Inc < was.Inc || out.Node.Num < was.Num || !noLess(out.Node.View, was.View) {
		t.Fatalf("%s of %+v: got %+v, which holds less", what, was, out)
	}
	for _, m := range out.Mails {
		if !impl.MailRight(m) || m.From != was.Id {
			t.Fatalf("%s of %+v: sent %+v", what, was, m)
		}
	}
}

// Promise 9, of many right nodes.
func TestRightNodeStaysRight(t *testing.T) {
	r := rand.New(rand.NewSource(84))
	for range 20000 {
		now := []int64{0, r.Int63n(lastTime - 99), lastTime - 100}[r.Intn(3)]
		n := someNode(r, now)
		out := impl.NodeWake(n, now)
		wantGrown(t, "NodeWake", n, out)
		if left := impl.ViewAt(n.View, n.Id).Status == impl.StGone; !left && impl.WakeAt(out.Node) <= now {
			t.Fatalf("NodeWake of %+v at %d: got %+v, of which something is due at %d", n, now, out, impl.WakeAt(out.Node))
		}
		if m := someMailFor(r, n); m.To == n.Id {
			wantGrown(t, "NodeHear", n, impl.NodeHear(n, m, now))
		}
		wantGrown(t, "NodeMeet", n, impl.NodeMeet(n, otherThan(r, n.Id)))
		if impl.ViewAt(n.View, n.Id).Status == impl.StHere {
			wantGrown(t, "NodeLeave", n, impl.NodeLeave(n))
		}
	}
}

// village is some nodes that live together for a while, over ways that lose and
// turn round what goes over them.
type village struct {
	t      *testing.T
	r      *rand.Rand
	nodes  map[int64]impl.Node
	under  []impl.Mail
	missed int
}

func (v *village) takes(what string, was impl.Node, out impl.NodeOut) {
	v.t.Helper()
	wantGrown(v.t, what, was, out)
	v.nodes[was.Id] = out.Node
	for _, m := range out.Mails {
		if v.r.Intn(10) > 0 {
			v.under = append(v.under, m)
		}
	}
	if out.Missed != 0 {
		v.missed++
	}
}

func (v *village) lives(now int64) {
	v.t.Helper()
	for _, id := range v.r.Perm(len(v.nodes)) {
		n := v.nodes[int64(id)+1]
		if v.r.Intn(400) == 0 && impl.ViewAt(n.View, n.Id).Status == impl.StHere {
			v.takes("NodeLeave", n, impl.NodeLeave(n))
		} else if impl.WakeAt(n) <= now {
			out := impl.NodeWake(n, now)
			v.takes("NodeWake", n, out)
			if impl.WakeAt(out.Node) <= now && impl.ViewAt(n.View, n.Id).Status == impl.StHere {
				v.t.Fatalf("NodeWake of %+v at %d: got %+v, of which something is due", n, now, out)
			}
		}
	}
	for range v.r.Intn(len(v.under) + 1) {
		i := v.r.Intn(len(v.under))
		m := v.under[i]
		v.under = slices.Delete(v.under, i, i+1)
		v.takes("NodeHear", v.nodes[m.To], impl.NodeHear(v.nodes[m.To], m, now))
	}
}

// Promise 9, of nodes that live together.
func TestVillageStaysRight(t *testing.T) {
	missed := 0
	for seed := range int64(30) {
		v := &village{t: t, r: rand.New(rand.NewSource(85 + seed)), nodes: map[int64]impl.Node{}}
		for id := int64(1); id <= 2+seed%5; id++ {
			v.nodes[id] = impl.NodeNew(id, seed, seed*1000+id, 0).Node
			if id > 1 {
				v.takes("NodeMeet", v.nodes[id], impl.NodeMeet(v.nodes[id], 1))
			}
		}
		for now := range int64(300) {
			v.lives(now)
		}
		missed += v.missed
	}
	if missed == 0 {
		t.Error("no answer was missed, so nobody was doubted")
	}
}

// Promise 10, by each kind of mail.
func TestNodeHoldsItselfToBeHere(t *testing.T) {
	incs := []int64{0, 1, 2, 7, 5000, lastTime - 2, lastTime - 1}
	looked := 0
	for _, kind := range allKinds {
		for _, own := range incs {
			for _, told := range incs {
				for _, status := range []int64{impl.StDoubt, impl.StGone} {
					if told < own {
						continue
					}
					looked++
					n := nodeWith(busy(), func(n *impl.Node) { n.Inc, n.View[2].Inc = own, own })
					out := impl.NodeHear(n, withFacts(plainMailTo3(kind), []impl.Fact{fact(3, told, status)}), 100)
					held := impl.ViewAt(out.Node.View, 3)
					if held != here(3, told+1) || out.Node.Inc != told+1 || held.Inc <= own || !impl.NodeRight(out.Node) {
						t.Errorf("told %d of %d in the life %d by a mail of the kind %d: got %+v", status, told, own, kind, out)
					}
				}
			}
		}
	}
	if looked < 200 {
		t.Errorf("only %d were looked at", looked)
	}
}

// Promise 10, of many nodes: what they hold then is told on, till those who held
// them to be gone hold them to be here.
func TestNodeRefutesWhatIsSaid(t *testing.T) {
	r := rand.New(rand.NewSource(86))
	for range 5000 {
		n := someNode(r, 100)
		if impl.ViewAt(n.View, n.Id).Status != impl.StHere || n.Inc == lastTime {
			continue
		}
		other := impl.NodeNew(otherThan(r, n.Id), 0, 0, 0).Node
		other.View = impl.ViewPut(other.View, fact(n.Id, n.Inc+r.Int63n(lastTime-n.Inc), impl.StDoubt+r.Int63n(2))).View
		said := impl.ViewAt(other.View, n.Id)
		met := impl.NodeMeet(other, n.Id)
		heard := impl.NodeHear(n, met.Mails[0], 100)
		if held := impl.ViewAt(heard.Node.View, n.Id); held.Status != impl.StHere || held.Inc <= said.Inc || heard.Node.Inc != held.Inc {
			t.Fatalf("%+v was told %+v: got %+v", n, said, heard)
		}
		back := impl.NodeHear(met.Node, heard.Mails[0], 101)
		if held := impl.ViewAt(back.Node.View, n.Id); held != here(n.Id, heard.Node.Inc) {
			t.Fatalf("%+v was told of %+v, and holds %+v", other, heard, held)
		}
	}
}
