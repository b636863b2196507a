package tests

import (
	"fmt"
	"math"
	"math/rand"
	"runtime"
	"slices"
	"sync"
	"testing"

	"loop.example/g00678/impl"
)

// hamlet is a World of three nodes that hold each other to be here, at 50; nothing
// is due before 200. Of its Seed the next Chance of a hundred is 75.
func hamlet() impl.World {
	w := impl.World{Now: 50, Seed: 1, Up: []int64{1, 2, 3}, Incs: []int64{4, 5, 6}, Count: 10}
	w.Recs = []impl.Rec{rec(0, 1, impl.RcStart, 0, 0, 0), rec(50, 3, impl.RcSend, 10, 1, 0)}
	for id := int64(1); id <= 3; id++ {
		view := []impl.Fact{here(1, 11), here(2, 12), here(3, 13)}
		w.Nodes = append(w.Nodes, impl.Node{Id: id, Inc: 10 + id, Num: 20 * id, Seed: id, Next: 200, View: view})
	}
	return w
}

// change is what is done to a World.
type change = func(*impl.World)

func befallen(l ...impl.Item) change {
	return func(w *impl.World) { w.Faults = append(w.Faults, l...) }
}

func downs(l ...impl.Rec) change {
	return func(w *impl.World) { w.Recs = append(w.Recs, l...) }
}

func mailed(at int64, seq int64, m impl.Mail) change {
	return func(w *impl.World) {
		w.Queue = append(w.Queue, impl.Due{At: at, Seq: seq, Node: m.To, Text: impl.MailBytes(m)})
	}
}

func inNode(id int64, what func(*impl.Node)) change {
	return func(w *impl.World) { what(&w.Nodes[id-1]) }
}

func upAre(l ...int64) change {
	return func(w *impl.World) { w.Up = l }
}

func nowIs(now int64) change {
	return func(w *impl.World) { w.Now = now }
}

// chanced has the Seed be the one behind so many chances.
func chanced(many int) change {
	return func(w *impl.World) {
		for range many {
			w.Seed = chanceByBig(w.Seed, 1).Seed
		}
	}
}

func countIs(n int64) change {
	return func(w *impl.World) { w.Count = n }
}

func also(l ...change) change {
	return func(w *impl.World) {
		for _, c := range l {
			c(w)
		}
	}
}

func hasLeftIn(id int64) change {
	return inNode(id, func(n *impl.Node) { n.View[id-1].Status = impl.StGone })
}

// takenFault has the first Fault be done at a time.
func takenFault(now int64) change {
	return func(w *impl.World) { w.Now, w.Faults = now, w.Faults[1:] }
}

// stepCase: what comes of one step of a changed hamlet.
type stepCase struct {
	what  string
	ahead change
	comes change
}

func wantSteps(t *testing.T, until int64, cases []stepCase) {
	t.Helper()
	for _, c := range cases {
		w := worldWith(hamlet(), c.ahead)
		if !impl.WorldRight(w) || !worldByRule(w) {
			t.Errorf("%s: it is no right World: %s", c.what, brief(w))
		}
		want := impl.WorldOut{World: worldWith(w, c.comes)}
		wantPlayed(t, c.what, w, stepping(until), want)
		if ruled := stepByRule(w, until); !sameWorldOut(ruled, want) {
			t.Errorf("%s: the rule has %s", c.what, unlike(ruled.World, want.World))
		}
		wantPlayed(t, c.what+", run", w, running(until, 1), want)
	}
}

func TestWorldNewWritten(t *testing.T) {
	seeds := []impl.ChanceOut{chanceByBig(1, lastTime)}
	for range 6 {
		seeds = append(seeds, chanceByBig(seeds[len(seeds)-1].Seed, lastTime))
	}
	own := func(id int64) impl.Node {
		view := []impl.Fact{here(id, 0)}
		return impl.Node{Id: id, Seed: seeds[id-1].N, View: view, Rumors: []impl.Rumor{rumorOf(here(id, 0), 0)}}
	}
	met := func(id int64) impl.Node {
		n := own(id)
		n.Num = 1
		return n
	}
	sync := func(from int64) impl.Mail {
		return impl.Mail{Kind: impl.MlSync, From: from, To: 1, Num: 1, Facts: []impl.Fact{here(from, 0)}}
	}
	start := func(id int64) impl.Rec { return rec(0, id, impl.RcStart, 0, 0, 0) }
	sent := func(number int64, from int64) impl.Rec { return rec(0, from, impl.RcSend, number, 1, 0) }
	one := impl.World{Seed: seeds[0].Seed, Nodes: []impl.Node{own(1)}, Up: []int64{1}, Incs: []int64{0}, Recs: []impl.Rec{start(1)}}
	// Three seeds, and a chance for each of both mails.
	three := impl.World{Seed: seeds[4].Seed, Nodes: []impl.Node{own(1), met(2), met(3)}, Up: []int64{1, 2, 3}, Incs: []int64{0, 0, 0}, Count: 2}
	mailed(1, 1, sync(2))(&three)
	mailed(1, 2, sync(3))(&three)
	three.Recs = []impl.Rec{start(1), start(2), sent(1, 2), start(3), sent(2, 3)}
	for nodes, want := range map[int64]impl.World{1: one, 3: three} {
		for _, faults := range [][]impl.Item{nil, {}, {crash(0, 1)}, {heal(0), crash(2000, 1)}} {
			want.Faults = faults
			got := impl.WorldNew(nodes, 1, faults)
			if got.Code != impl.OK || !sameWorld(got.World, want) {
				t.Errorf("WorldNew of %d nodes: got Code %d, %s, want %s", nodes, got.Code, unlike(got.World, want), unlike(want, got.World))
			}
		}
	}
}

func wantNew(t *testing.T, what string, nodes int64, seed int64, faults []impl.Item) {
	t.Helper()
	arg := roomyItems(faults)
	was := slices.Clone(arg[:cap(arg)])
	got, want := impl.WorldNew(nodes, seed, arg), newByRule(nodes, seed, faults)
	if !sameWorldOut(got, want) {
		t.Errorf("%s: WorldNew of %d, %d, %s: got Code %d, %s, want Code %d, %s", what, nodes, seed, brief(faults), got.Code, unlike(got.World, want.World), want.Code, unlike(want.World, got.World))
	}
	if !slices.Equal(arg[:cap(arg)], was) {
		t.Errorf("%s: WorldNew changed %s", what, brief(faults))
	}
	if worldsShare(got.World, impl.World{Faults: arg}, impl.WorldNew(nodes, seed, arg).World) {
		t.Errorf("%s: WorldNew of %d, %d, %s: memory is shared", what, nodes, seed, brief(faults))
	}
	if got.Code == impl.OK && !impl.WorldRight(got.World) {
		t.Errorf("%s: WorldNew of %d, %d, %s is not right", what, nodes, seed, brief(faults))
	}
}

// wrongFaults could not be those of a World of three nodes.
func wrongFaults() map[string][]impl.Item {
	among := func(x impl.Item) []impl.Item { return []impl.Item{heal(x.At), x, heal(2000)} }
	long := func(many int) []impl.Item { return slices.Repeat([]impl.Item{heal(7)}, many) }
	return map[string][]impl.Item{
		"a loop":                        among(loop(5, 2, 10)),
		"a loop with its end":           {loop(5, 2, 10), end},
		"an end":                        {end},
		"an end behind another":         {heal(0), end},
		"the zero Item":                 {{}},
		"no kind":                       among(item(10, 5, 0, 0)),
		"a kind below":                  among(item(-1, 5, 0, 0)),
		"At 2001":                       {crash(2001, 1)},
		"At 2001, of a heal":            {heal(2001)},
		"At below 0":                    {heal(-1)},
		"a crash of a node not there":   among(crash(5, 4)),
		"a start of a node not there":   among(item(impl.PnStart, 5, 4, 0)),
		"a leave of a node not there":   among(item(impl.PnLeave, 5, 4, 0)),
		"a crash of 6":                  among(crash(5, 6)),
		"a crash of no node":            among(crash(5, 0)),
		"a crash of 7":                  among(crash(5, 7)),
		"a cut of nobody":               among(item(impl.PnCut, 5, 0, 0)),
		"a cut of 64":                   among(item(impl.PnCut, 5, 64, 0)),
		"a loss of 101":                 among(item(impl.PnLoss, 5, 101, 0)),
		"a delay of 10":                 among(item(impl.PnDelay, 5, 10, 0)),
		"a B":                           among(item(impl.PnCrash, 5, 1, 1)),
		"falling":                       {heal(6), heal(5)},
		"falling at the end":            {heal(5), heal(6), heal(6), crash(5, 1)},
		"falling at first":              {heal(2000), heal(0), heal(2000)},
		"one more than MaxFaults":       long(61),
		"MaxList":                       long(400),
		"MaxFaults, the last one wrong": append(long(59), crash(7, 4)),
		"many zero ones":                make([]impl.Item, 100),
	}
}

// rightFaults could be those of a World of three nodes.
func rightFaults() map[string][]impl.Item {
	return map[string][]impl.Item{
		"none":                  nil,
		"an empty list":         {},
		"one of each, alike":    {crash(5, 1), item(impl.PnStart, 5, 2, 0), item(impl.PnCut, 5, 7, 0), heal(5), item(impl.PnLoss, 5, 100, 0), item(impl.PnDelay, 5, 9, 0), item(impl.PnLeave, 5, 3, 0)},
		"At 0 and 2000":         {crash(0, 3), crash(2000, 3)},
		"MaxFaults":             slices.Repeat([]impl.Item{crash(7, 3)}, 60),
		"a cut of all bits":     {item(impl.PnCut, 5, 63, 0)},
		"a cut of the bit of 6": {item(impl.PnCut, 5, 32, 0)},
		"at the least":          {item(impl.PnLoss, 5, 0, 0), item(impl.PnDelay, 5, 0, 0), item(impl.PnCut, 5, 1, 0)},
	}
}

func TestWorldNew(t *testing.T) {
	for nodes := int64(1); nodes <= 6; nodes++ {
		for _, seed := range []int64{0, 1, 2, 255, 256, lastSeed - 1, lastSeed} {
			wantNew(t, "no faults", nodes, seed, nil)
			wantNew(t, "some faults", nodes, seed, []impl.Item{item(impl.PnLoss, 0, 100, 0), crash(0, 1), crash(2000, nodes)})
		}
	}
	for _, nodes := range []int64{math.MinInt64, -1, 0, 7, 1 << 32, 1<<32 + 1, 1<<33 + 2, math.MaxInt64} {
		wantNew(t, "no number of nodes", nodes, 1, nil)
		if got := impl.WorldNew(nodes, 1, nil); got.Code != impl.ErrForm {
			t.Errorf("WorldNew of %d nodes: got Code %d", nodes, got.Code)
		}
	}
	for _, seed := range wrongSeeds {
		wantNew(t, "no seed", 2, seed, nil)
	}
	for what, faults := range rightFaults() {
		wantNew(t, what, 3, 5, faults)
		if got := impl.WorldNew(3, 5, faults); got.Code != impl.OK {
			t.Errorf("WorldNew, %s: got Code %d", what, got.Code)
		}
	}
	for what, faults := range wrongFaults() {
		wantNew(t, what, 3, 5, faults)
		if got := impl.WorldNew(3, 5, faults); !sameWorldOut(got, impl.WorldOut{Code: impl.ErrForm}) {
			t.Errorf("WorldNew, %s: got Code %d, %s", what, got.Code, brief(got.World))
		}
	}
	for _, many := range []int{401, 402, 5000} {
		for what, faults := range map[string][]impl.Item{"right ones": slices.Repeat([]impl.Item{heal(1)}, many), "zero ones": make([]impl.Item, many)} {
			for _, nodes := range []int64{0, 2} {
				if got := impl.WorldNew(nodes, 5, faults); !sameWorldOut(got, impl.WorldOut{Code: impl.ErrSize}) {
					t.Errorf("WorldNew of %d nodes, %d %s: got Code %d", nodes, many, what, got.Code)
				}
			}
		}
	}
}

func TestWorldFaultsCrash(t *testing.T) {
	wantSteps(t, 60, []stepCase{
		{"a crash of one that is up", befallen(crash(60, 2), heal(70)), also(
			takenFault(60), upAre(1, 3), downs(rec(60, 2, impl.RcCrash, 0, 0, 0)), func(w *impl.World) { w.Incs[1] = 12 })},
		{"of the last one that is up", also(upAre(3), befallen(crash(60, 3))), also(
			takenFault(60), upAre(), downs(rec(60, 3, impl.RcCrash, 0, 0, 0)), func(w *impl.World) { w.Incs[2] = 13 })},
		{"of one that is not up", also(upAre(1, 3), befallen(crash(60, 2))), takenFault(60)},
		{"of one that is up, and has left", also(hasLeftIn(2), befallen(crash(60, 2))), also(
			takenFault(60), upAre(1, 3), downs(rec(60, 2, impl.RcCrash, 0, 0, 0)), func(w *impl.World) { w.Incs[1] = 12 })},
		{"what is on its way stays so", also(mailed(60, 4, plainMail2to1()), befallen(crash(60, 1))), also(
			takenFault(60), upAre(2, 3), downs(rec(60, 1, impl.RcCrash, 0, 0, 0)), func(w *impl.World) { w.Incs[0] = 11 })},
	})
}

func plainMail2to1() impl.Mail {
	return impl.Mail{Kind: impl.MlTell, From: 2, To: 1, Num: 3}
}

func TestWorldFaultsStart(t *testing.T) {
	start := func(id int64) impl.Item { return item(impl.PnStart, 60, id, 0) }
	// The seed is that of chance behind the Seed 1; the mail's chance is the second one.
	fresh := func(id int64, inc int64, num int64) change {
		return func(w *impl.World) {
			w.Nodes[id-1] = impl.NodeNew(id, inc, chanceByBig(1, lastTime).N, 60).Node
			w.Nodes[id-1].Num = num
			w.Incs[id-1] = inc
		}
	}
	sync := func(from int64, to int64, inc int64) impl.Mail {
		return impl.Mail{Kind: impl.MlSync, From: from, To: to, Num: 1, Facts: []impl.Fact{here(from, inc)}}
	}
	wantSteps(t, 60, []stepCase{
		{"a start of one that is not up", also(upAre(1, 3), befallen(start(2))), also(
			takenFault(60), upAre(1, 2, 3), fresh(2, 6, 1), chanced(2), countIs(11),
			downs(rec(60, 2, impl.RcStart, 6, 0, 0), rec(60, 2, impl.RcSend, 11, 1, 0)), mailed(61, 11, sync(2, 1, 6)))},
		{"of the first one", also(upAre(2, 3), befallen(start(1))), also(
			takenFault(60), upAre(1, 2, 3), fresh(1, 5, 1), chanced(2), countIs(11),
			downs(rec(60, 1, impl.RcStart, 5, 0, 0), rec(60, 1, impl.RcSend, 11, 2, 0)), mailed(61, 11, sync(1, 2, 5)))},
		{"where the last one alone is up", also(upAre(3), befallen(start(1))), also(
			takenFault(60), upAre(1, 3), fresh(1, 5, 1), chanced(2), countIs(11),
			downs(rec(60, 1, impl.RcStart, 5, 0, 0), rec(60, 1, impl.RcSend, 11, 3, 0)), mailed(61, 11, sync(1, 3, 5)))},
		{"where one is up that has left", also(hasLeftIn(1), upAre(1), befallen(start(2))), also(
			takenFault(60), upAre(1, 2), fresh(2, 6, 1), chanced(2), countIs(11),
			downs(rec(60, 2, impl.RcStart, 6, 0, 0), rec(60, 2, impl.RcSend, 11, 1, 0)), mailed(61, 11, sync(2, 1, 6)))},
		{"where nobody is up", also(upAre(), befallen(start(2))), also(
			takenFault(60), upAre(2), fresh(2, 6, 0), chanced(1), downs(rec(60, 2, impl.RcStart, 6, 0, 0)))},
		{"of one that is up", befallen(start(2)), takenFault(60)},
		{"of one that is up, and has left", also(hasLeftIn(2), befallen(start(2))), takenFault(60)},
		{"of one that has left, and is not up", also(hasLeftIn(2), upAre(), befallen(start(2))), also(
			takenFault(60), upAre(2), fresh(2, 6, 0), chanced(1), downs(rec(60, 2, impl.RcStart, 6, 0, 0)))},
		{"in the last life", also(upAre(), func(w *impl.World) { w.Incs[1] = lastTime }, befallen(start(2))), takenFault(60)},
		{"in the one ahead of it", also(upAre(), func(w *impl.World) { w.Incs[1] = lastTime - 1 }, befallen(start(2))), also(
			takenFault(60), upAre(2), fresh(2, lastTime, 0), chanced(1), downs(rec(60, 2, impl.RcStart, lastTime, 0, 0)))},
		{"where its mail is lost by a cut", also(upAre(1), func(w *impl.World) { w.Cut = 2 }, befallen(start(2))), also(
			takenFault(60), upAre(1, 2), fresh(2, 6, 1), chanced(2), countIs(11),
			downs(rec(60, 2, impl.RcStart, 6, 0, 0), rec(60, 2, impl.RcSend, 11, 1, 0)))},
	})
}

func TestWorldFaultsLeave(t *testing.T) {
	leave := func(id int64) impl.Item { return item(impl.PnLeave, 60, id, 0) }
	parting := func(to int64, facts ...impl.Fact) impl.Mail {
		return impl.Mail{Kind: impl.MlTell, From: 2, To: to, Num: 41, Facts: facts}
	}
	left := inNode(2, func(n *impl.Node) { n.Num, n.View[1] = 41, gone(2, 12) })
	facts := []impl.Fact{here(1, 11), gone(2, 12), here(3, 13)}
	wantSteps(t, 60, []stepCase{
		{"a leave", befallen(leave(2)), also(
			takenFault(60), left, downs(rec(60, 2, impl.RcView, 2, 12, impl.StGone), rec(60, 2, impl.RcSend, 11, 1, 0), rec(60, 2, impl.RcSend, 12, 3, 0)),
			chanced(2), countIs(12), mailed(61, 11, parting(1, facts...)), mailed(61, 12, parting(3, facts...)))},
		{"a leave where one is gone", also(inNode(2, func(n *impl.Node) { n.View[0].Status = impl.StGone }), befallen(leave(2))), also(
			takenFault(60), left, downs(rec(60, 2, impl.RcView, 2, 12, impl.StGone), rec(60, 2, impl.RcSend, 11, 3, 0)),
			chanced(1), countIs(11), mailed(61, 11, parting(3, gone(1, 11), gone(2, 12), here(3, 13))))},
		{"a leave, tell of one who is not up", also(upAre(2), befallen(leave(2))), also(
			takenFault(60), left, downs(rec(60, 2, impl.RcView, 2, 12, impl.StGone), rec(60, 2, impl.RcSend, 11, 1, 0), rec(60, 2, impl.RcSend, 12, 3, 0)),
			chanced(2), countIs(12), mailed(61, 11, parting(1, facts...)), mailed(61, 12, parting(3, facts...)))},
		{"of one that has left", also(hasLeftIn(2), befallen(leave(2))), takenFault(60)},
		{"of one that is not up", also(upAre(1, 3), befallen(leave(2))), takenFault(60)},
		{"of one that is not up, nor has left", also(hasLeftIn(2), upAre(1, 3), befallen(leave(2))), takenFault(60)},
	})
}

func TestWorldFaultsOfWays(t *testing.T) {
	of := func(kind int64, a int64) impl.Item { return item(kind, 60, a, 0) }
	ways := func(cut int64, loss int64, delay int64) change {
		return func(w *impl.World) { w.Cut, w.Loss, w.Delay = cut, loss, delay }
	}
	wantSteps(t, 1000000, []stepCase{
		{"a cut", befallen(of(impl.PnCut, 63)), also(takenFault(60), ways(63, 0, 0))},
		{"another cut", also(ways(5, 6, 7), befallen(of(impl.PnCut, 1))), also(takenFault(60), ways(1, 6, 7))},
		{"the same cut", also(ways(5, 6, 7), befallen(of(impl.PnCut, 5))), takenFault(60)},
		{"a heal", also(ways(5, 6, 7), befallen(heal(60))), also(takenFault(60), ways(0, 6, 7))},
		{"a heal of nothing", also(ways(0, 6, 7), befallen(heal(60))), takenFault(60)},
		{"a loss", befallen(of(impl.PnLoss, 100)), also(takenFault(60), ways(0, 100, 0))},
		{"another loss", also(ways(5, 6, 7), befallen(of(impl.PnLoss, 0))), also(takenFault(60), ways(5, 0, 7))},
		{"the same loss", also(ways(5, 6, 7), befallen(of(impl.PnLoss, 6))), takenFault(60)},
		{"a delay", befallen(of(impl.PnDelay, 9)), also(takenFault(60), ways(0, 0, 9))},
		{"another delay", also(ways(5, 6, 7), befallen(of(impl.PnDelay, 0))), also(takenFault(60), ways(5, 6, 0))},
		{"the same delay", also(ways(5, 6, 7), befallen(of(impl.PnDelay, 7))), takenFault(60)},
	})
}

// pinged is what comes of an MlPing of node 2 that node 1 gets at a time, but for
// what becomes of the MlAck that it sends.
func pinged(at int64) change {
	return also(nowIs(at), func(w *impl.World) { w.Queue = w.Queue[1:] }, countIs(11),
		downs(rec(at, 1, impl.RcGot, 4, 2, 0), rec(at, 1, impl.RcSend, 11, 2, 0)))
}

func ping2to1() impl.Mail {
	return impl.Mail{Kind: impl.MlPing, From: 2, To: 1, Num: 9, For: 3}
}

func ack1to2() impl.Mail {
	return impl.Mail{Kind: impl.MlAck, From: 1, To: 2, Num: 9, About: 1, For: 3}
}

// Which mails are lost, and when the others come.
func TestWorldWays(t *testing.T) {
	ways := func(cut int64, loss int64, delay int64) change {
		return also(mailed(60, 4, ping2to1()), func(w *impl.World) { w.Cut, w.Loss, w.Delay = cut, loss, delay })
	}
	comes, lost := also(pinged(60), chanced(1), mailed(61, 11, ack1to2())), also(pinged(60), chanced(1))
	cases := []stepCase{
		{"nothing is lost", ways(0, 0, 0), comes},
		{"chance is the Loss", ways(0, 75, 0), comes},
		{"chance is below it", ways(0, 76, 0), lost},
		{"all is lost", ways(0, 100, 9), lost},
		{"from is in the cut", ways(1, 0, 0), lost},
		{"to is in the cut", ways(2, 0, 9), lost},
		{"both are in the cut", ways(3, 0, 0), comes},
		{"both, and others", ways(63, 0, 0), comes},
		{"neither is in the cut", ways(60, 0, 0), comes},
		{"one of both, and others", ways(62, 0, 0), lost},
		{"lost twice", ways(1, 100, 0), lost},
	}
	for delay := int64(1); delay <= 9; delay++ {
		d := chanceByBig(chanceByBig(1, 100).Seed, delay+1).N
		come := also(pinged(60), chanced(2), mailed(61+d, 11, ack1to2()))
		cases = append(cases, stepCase{"a delay", ways(0, 0, delay), come}, stepCase{"a delay, where one may be lost", ways(0, 75, delay), come},
			stepCase{"a delay, and lost", ways(0, 76, delay), lost})
	}
	wantSteps(t, 60, cases)
}

// The Queue is full: what is sent is lost, though chance tells how late it would be.
func TestWorldFullQueue(t *testing.T) {
	full := func(many int, rest ...change) change {
		return also(append(rest, func(w *impl.World) {
			w.Count = 300
			for i := range many {
				mailed(100+int64(i), int64(i), plainMail2to1())(w)
			}
		})...)
	}
	leave := item(impl.PnLeave, 60, 1, 0)
	left := inNode(1, func(n *impl.Node) { n.Num, n.View[0] = 21, gone(1, 11) })
	parting := func(to int64) impl.Mail {
		return impl.Mail{Kind: impl.MlTell, From: 1, To: to, Num: 21, Facts: []impl.Fact{gone(1, 11), here(2, 12), here(3, 13)}}
	}
	written := also(takenFault(60), left, countIs(302),
		downs(rec(60, 1, impl.RcView, 1, 11, impl.StGone), rec(60, 1, impl.RcSend, 301, 2, 0), rec(60, 1, impl.RcSend, 302, 3, 0)))
	ahead := func(l ...impl.Mail) change {
		return func(w *impl.World) {
			was := w.Queue
			w.Queue = nil
			for i, m := range l {
				mailed(61, 301+int64(i), m)(w)
			}
			w.Queue = append(w.Queue, was...)
		}
	}
	late := func(w *impl.World) { w.Delay = 9 }
	wantSteps(t, 60, []stepCase{
		{"room for both", full(198, befallen(leave)), also(written, chanced(2), ahead(parting(2), parting(3)))},
		{"room for one", full(199, befallen(leave)), also(written, chanced(2), ahead(parting(2)))},
		{"room for none", full(200, befallen(leave)), also(written, chanced(2))},
		{"room for none, with a delay", full(200, befallen(leave), late), also(written, chanced(4))},
	})
}

func TestWorldArrivals(t *testing.T) {
	tell := impl.Mail{Kind: impl.MlTell, From: 2, To: 1, Num: 3, Facts: []impl.Fact{doubted(1, 11), here(2, 12), gone(3, 13)}}
	taken := also(nowIs(60), func(w *impl.World) { w.Queue = w.Queue[1:] })
	learned := inNode(1, func(n *impl.Node) {
		n.Inc, n.View = 12, []impl.Fact{here(1, 12), here(2, 12), gone(3, 13)}
		n.Rumors = []impl.Rumor{rumorOf(here(1, 12), 0), rumorOf(gone(3, 13), 0)}
	})
	wantSteps(t, 60, []stepCase{
		{"what it holds then is written down by node", mailed(60, 10, tell), also(taken, learned,
			downs(rec(60, 1, impl.RcGot, 10, 2, 0), rec(60, 1, impl.RcView, 1, 12, impl.StHere), rec(60, 1, impl.RcView, 3, 13, impl.StGone)))},
		{"of a mail that says nothing new", mailed(60, 10, plainMail2to1()), also(taken, downs(rec(60, 1, impl.RcGot, 10, 2, 0)))},
		{"of one with the number 0", mailed(60, 0, plainMail2to1()), also(taken, downs(rec(60, 1, impl.RcGot, 0, 2, 0)))},
		{"of one that is not up", also(upAre(2, 3), mailed(60, 10, tell)), taken},
		{"of one that has left", also(hasLeftIn(1), mailed(60, 10, tell)), also(taken, downs(rec(60, 1, impl.RcGot, 10, 2, 0)))},
		{"from one that is not up", also(upAre(1), mailed(60, 10, plainMail2to1())), also(taken, downs(rec(60, 1, impl.RcGot, 10, 2, 0)))},
		{"over a cut that came behind it", also(mailed(60, 10, plainMail2to1()), func(w *impl.World) { w.Cut, w.Loss = 1, 100 }),
			also(taken, downs(rec(60, 1, impl.RcGot, 10, 2, 0)))},
		{"the first one of its time alone", also(mailed(60, 4, plainMail2to1()), mailed(60, 5, tell)), also(taken, downs(rec(60, 1, impl.RcGot, 4, 2, 0)))},
		{"a view of a node that it did not know", also(inNode(1, func(n *impl.Node) { n.View = n.View[:1] }), mailed(60, 10, impl.Mail{Kind: impl.MlTell, From: 2, To: 1, Facts: []impl.Fact{here(2, 0)}})),
			also(taken, inNode(1, func(n *impl.Node) {
				n.View, n.Rumors = []impl.Fact{here(1, 11), here(2, 0)}, []impl.Rumor{rumorOf(here(2, 0), 0)}
			}), downs(rec(60, 1, impl.RcGot, 10, 2, 0), rec(60, 1, impl.RcView, 2, 0, impl.StHere)))},
	})
}

func TestWorldWakes(t *testing.T) {
	// Node 1 asked 2 at 57, and others too: it has missed, doubts 2, gives 3 up, and asks on.
	busy := inNode(1, func(n *impl.Node) {
		n.Next, n.Probe = 60, impl.Probe{Node: 2, Num: 20, Due: 60, Asked: true}
		n.View[2].Status, n.Doubts = impl.StDoubt, []impl.Doubt{{Node: 3, Inc: 13, Due: 60}}
	})
	became := inNode(1, func(n *impl.Node) {
		n.Next, n.Num = 65, 21
		n.Turn, n.Probe = impl.Turn{List: []int64{2}, At: 1}, impl.Probe{Node: 2, Num: 21, Due: 63}
		n.View, n.Doubts = []impl.Fact{here(1, 11), doubted(2, 12), gone(3, 13)}, []impl.Doubt{{Node: 2, Inc: 12, Due: 72}}
		n.Rumors = []impl.Rumor{rumorOf(gone(3, 13), 1), rumorOf(doubted(2, 12), 0)}
	})
	asked := impl.Mail{Kind: impl.MlPing, From: 1, To: 2, Num: 21, Facts: []impl.Fact{gone(3, 13)}}
	next := func(id int64, at int64) change { return inNode(id, func(n *impl.Node) { n.Next = at }) }
	alone := func(id int64, at int64, then int64) stepCase {
		return stepCase{"the first one that is due", next(id, at), also(nowIs(max(at, 50)), inNode(id, func(n *impl.Node) { n.Next = then }))}
	}
	nobody := func(w *impl.World) {
		for i := range w.Nodes {
			w.Nodes[i].View = w.Nodes[i].View[i : i+1]
		}
	}
	cases := []stepCase{
		{"what it missed, then what it holds, then what it sends", busy, also(nowIs(60), became, countIs(11), chanced(1),
			downs(rec(60, 1, impl.RcMiss, 2, 0, 0), rec(60, 1, impl.RcView, 2, 12, impl.StDoubt), rec(60, 1, impl.RcView, 3, 13, impl.StGone), rec(60, 1, impl.RcSend, 11, 2, 0)),
			mailed(61, 11, asked))},
		{"of one that is up alone", also(upAre(3), nobody, next(1, 60), next(2, 50), next(3, 60)), also(nowIs(60), next(3, 65))},
		{"of one that has not left", also(nobody, next(1, 60), func(w *impl.World) { w.Nodes[0].View[0].Status = impl.StGone }, next(2, 60)), also(nowIs(60), next(2, 65))},
		{"of the least one", also(nobody, next(2, 60), next(3, 60)), also(nowIs(60), next(2, 65))},
		{"of the one that is due, not the least one", also(nobody, next(1, 61), next(2, 60), next(3, 61)), also(nowIs(60), next(2, 65))},
		{"of the least one of those that are late", also(nobody, next(2, 50), next(3, 20)), also(nowIs(50), next(2, 55))},
	}
	for _, c := range []stepCase{alone(1, 60, 65), alone(2, 51, 56), alone(3, 50, 55), alone(3, 20, 55), alone(1, 0, 55)} {
		c.ahead, c.comes = also(nobody, c.ahead), also(c.comes)
		cases = append(cases, c)
	}
	wantSteps(t, 60, cases)
}

// A Fault, then what is on its way, then the nodes by their Ids, one each step.
func TestWorldAllAtOnce(t *testing.T) {
	for _, now := range []int64{50, 60, 70} {
		w := worldWith(hamlet(), nowIs(now), befallen(item(impl.PnCut, 60, 5, 0), heal(60)), func(w *impl.World) {
			mailed(max(now, 60), 4, plainMail2to1())(w)
			mailed(max(now, 60), 5, impl.Mail{Kind: impl.MlTell, From: 1, To: 2})(w)
			for i := range w.Nodes {
				w.Nodes[i].Next, w.Nodes[i].View = 60, w.Nodes[i].View[i:i+1]
			}
		})
		at := max(now, 60)
		did := func(w impl.World) string {
			return fmt.Sprint(len(w.Faults), len(w.Queue), w.Cut, w.Nodes[0].Next, w.Nodes[1].Next, w.Nodes[2].Next)
		}
		for _, want := range [][6]int64{{1, 2, 5, 60, 60, 60}, {0, 2, 0, 60, 60, 60}, {0, 1, 0, 60, 60, 60}, {0, 0, 0, 60, 60, 60}, {0, 0, 0, at + 5, 60, 60}, {0, 0, 0, at + 5, at + 5, 60}, {0, 0, 0, at + 5, at + 5, at + 5}} {
			if got := impl.NextAt(w); got != at {
				t.Errorf("NextAt ahead of %v: got %d, want %d", want, got, at)
			}
			out := impl.WorldStep(w, at)
			if out.Code != impl.OK || out.World.Now != at || "["+did(out.World)+"]" != fmt.Sprint(want) {
				t.Errorf("all due at once, at %d: got Code %d, Now %d, %s, want %v", now, out.Code, out.World.Now, did(out.World), want)
			}
			w = out.World
		}
		if got := impl.NextAt(w); got != at+5 {
			t.Errorf("NextAt behind all: got %d, want %d", got, at+5)
		}
	}
}

func wantNextAt(t *testing.T, what string, w impl.World, want int64) {
	t.Helper()
	arg := roomyWorld(w)
	was := worldWithRoom(arg)
	if got := impl.NextAt(arg); got != want {
		t.Errorf("NextAt, %s: got %d, want %d", what, got, want)
	}
	if worldByRule(w) && nextByRule(w) != want {
		t.Errorf("NextAt, %s: the rule has %d, not %d", what, nextByRule(w), want)
	}
	if got := worldWithRoom(arg); !sameWorld(got, was) {
		t.Errorf("NextAt, %s: what was handed in was changed", what)
	}
}

func TestNextAt(t *testing.T) {
	mail := func(at int64) change { return mailed(at, 4, plainMail2to1()) }
	next := func(id int64, at int64) change { return inNode(id, func(n *impl.Node) { n.Next = at }) }
	for _, c := range []struct {
		what   string
		change change
		want   int64
	}{
		{"the nodes alone", also(), 200},
		{"the least of the nodes", also(next(1, 80), next(2, 70), next(3, 90)), 70},
		{"a node that is late", next(2, 20), 50},
		{"a node at Now", next(3, 50), 50},
		{"a Probe", inNode(2, func(n *impl.Node) { n.Probe = impl.Probe{Node: 1, Due: 64} }), 64},
		{"a Doubt", inNode(3, func(n *impl.Node) { n.Doubts = []impl.Doubt{{Node: 1, Due: 99}, {Node: 2, Due: 65}} }), 65},
		{"a Fault", befallen(crash(60, 1), crash(61, 1)), 60},
		{"a Fault that is late", befallen(crash(0, 1), crash(61, 1)), 50},
		{"a Fault that changes nothing", befallen(heal(60)), 60},
		{"a mail", also(mail(62), mail(63)), 62},
		{"a mail at Now", mail(50), 50},
		{"a mail to one that is not up", also(upAre(2), mail(62)), 62},
		{"one who is not up", also(upAre(1, 3), next(2, 70)), 200},
		{"one who is not up, and late", also(upAre(1, 3), next(2, 0)), 200},
		{"one who has left", also(hasLeftIn(2), next(2, 0)), 200},
		{"one who has left by what others hold", also(inNode(1, func(n *impl.Node) { n.View[1].Status = impl.StGone }), next(2, 70)), 70},
		{"nobody is up", also(upAre(), next(2, 0)), -1},
		{"nobody is up, but a Fault", also(upAre(), befallen(heal(60))), 60},
		{"nobody is up, but a mail", also(upAre(), mail(61)), 61},
		{"all have left", also(hasLeftIn(1), hasLeftIn(2), hasLeftIn(3)), -1},
		{"one has not left", also(hasLeftIn(1), hasLeftIn(2), upAre(1, 2)), -1},
		{"the least of all kinds: a Fault", also(befallen(heal(60)), mail(61), next(1, 62)), 60},
		{"the least of all kinds: a mail", also(befallen(heal(61)), mail(60), next(1, 62)), 60},
		{"the least of all kinds: a node", also(befallen(heal(61)), mail(62), next(1, 60)), 60},
		{"the last time that there is", also(upAre(1), next(1, lastTime)), lastTime},
		{"at the latest Now", also(nowIs(999800)), 999800},
		{"a World that is not right", nowIs(-1), -1},
		{"one at a Now that is too late", nowIs(999801), -1},
	} {
		wantNextAt(t, c.what, worldWith(hamlet(), c.change), c.want)
	}
	wantNextAt(t, "the zero World", impl.World{}, -1)
}

// refusedStep: what tells this code when it is stepped, and is not played on when it is run.
func refusedStep(t *testing.T, what string, w impl.World, until int64, code int64) {
	t.Helper()
	wantPlayed(t, what, w, stepping(until), impl.WorldOut{Code: code})
	if got := stepByRule(w, until).Code; got != code {
		t.Errorf("%s: the rule has Code %d, not %d", what, got, code)
	}
	run := impl.WorldOut{World: w}
	if code == impl.ErrForm {
		run = impl.WorldOut{Code: code}
	}
	wantPlayed(t, what+", run", w, running(until, 500), run)
}

func TestWorldStepCodes(t *testing.T) {
	idle := upAre()
	late := func(at int64) change {
		return func(w *impl.World) {
			w.Now = at
			for i := range w.Nodes {
				w.Nodes[i].Next = 0
			}
		}
	}
	recs := func(many int) change {
		return func(w *impl.World) { w.Recs = someRecs(rand.New(rand.NewSource(1)), many) }
	}
	nextIs := func(at int64) change {
		return func(w *impl.World) {
			for i := range w.Nodes {
				w.Nodes[i].Next = at
			}
		}
	}
	hours := func(at int64) impl.World { return worldWith(hamlet(), nextIs(at)) }
	for _, until := range []int64{math.MinInt64, -1, lastTime + 1, math.MaxInt64, 1 << 32} {
		refusedStep(t, "until is no time", hours(60), until, impl.ErrForm)
		refusedStep(t, "until is no time, and nothing is due", worldWith(hamlet(), idle), until, impl.ErrForm)
	}
	refusedStep(t, "until is one below", hours(60), 59, impl.ErrNone)
	refusedStep(t, "until is 0", hours(60), 0, impl.ErrNone)
	refusedStep(t, "until is one below Now", worldWith(hamlet(), late(50)), 49, impl.ErrNone)
	refusedStep(t, "nothing is due", worldWith(hamlet(), idle), 1000000, impl.ErrNone)
	refusedStep(t, "nothing is due, with many Recs", worldWith(hamlet(), idle, recs(400)), 1000000, impl.ErrNone)
	refusedStep(t, "until is one below, of a Count of too many", worldWith(hours(60), countIs(100000)), 59, impl.ErrNone)
	refusedStep(t, "until is one below what is too late", hours(999801), 999800, impl.ErrNone)
	for _, many := range []int{361, 362, 399, 400} {
		refusedStep(t, "too many Recs", worldWith(hours(60), recs(many)), 60, impl.ErrFull)
	}
	for _, many := range []int64{99901, 99999, 100000} {
		refusedStep(t, "a Count of too many", worldWith(hours(60), countIs(many)), 1000000, impl.ErrFull)
	}
	for _, at := range []int64{999801, 999802, 1000000} {
		refusedStep(t, "too late", hours(at), 1000000, impl.ErrFull)
		refusedStep(t, "too late, from the latest Now on", worldWith(hours(at), nowIs(999800)), at, impl.ErrFull)
	}
	for what, w := range map[string]impl.World{
		"until is NextAt":                hours(60),
		"as many Recs as may be":         worldWith(hours(60), recs(360)),
		"a Count of as many as may be":   worldWith(hours(60), countIs(99900)),
		"all of both":                    worldWith(hours(60), recs(360), countIs(99900)),
		"late ones at Now":               worldWith(hamlet(), nowIs(60), nextIs(3)),
		"one that is far behind its Now": worldWith(hamlet(), nowIs(60), nextIs(0)),
	} {
		wantPlayed(t, what, w, stepping(60), stepByRule(w, 60))
		if got := impl.WorldStep(w, 60); got.Code != impl.OK || got.World.Now != 60 || !impl.WorldRight(got.World) {
			t.Errorf("%s: got Code %d, Now %d", what, got.Code, got.World.Now)
		}
	}
	for _, now := range []int64{50, 999799, 999800} {
		w := worldWith(hours(999800), nowIs(now))
		wantPlayed(t, "as late as may be", w, stepping(999800), stepByRule(w, 999800))
		if got := impl.WorldStep(w, 999800); got.Code != impl.OK || got.World.Now != 999800 || !impl.WorldRight(got.World) {
			t.Errorf("as late as may be: got Code %d, Now %d", got.Code, got.World.Now)
		}
	}
}

func TestWorldRunCodes(t *testing.T) {
	w := begun(t, 3, 4)
	for _, most := range []int64{math.MinInt64, -1, 501, 502, 1 << 32, math.MaxInt64} {
		wantPlayed(t, "most", w, running(60, most), impl.WorldOut{Code: impl.ErrForm})
	}
	for _, until := range []int64{math.MinInt64, -1, lastTime + 1, math.MaxInt64} {
		for _, most := range []int64{0, 1, 500} {
			wantPlayed(t, "until", w, running(until, most), impl.WorldOut{Code: impl.ErrForm})
		}
	}
	for _, most := range []int64{0, 500} {
		wantPlayed(t, "the zero World", impl.World{}, running(60, most), impl.WorldOut{Code: impl.ErrForm})
	}
	wantPlayed(t, "no step at all", w, running(60, 0), impl.WorldOut{World: w})
	for most := range int64(12) {
		wantPlayed(t, "so many steps", w, running(60, most), runByRule(w, 60, most))
	}
	for _, most := range []int64{499, 500} {
		wantPlayed(t, "as many steps as may be", begun(t, 2, 4), running(60, most), runByRule(begun(t, 2, 4), 60, most))
	}
	wantPlayed(t, "till there are too many Recs", begun(t, 6, 4), running(lastTime, 500), runByRule(begun(t, 6, 4), lastTime, 500))
	for until := range int64(20) {
		wantPlayed(t, "until", w, running(until, 500), runByRule(w, until, 500))
	}
}

// A run of 500 steps ends, though there is more to do.
func TestWorldRunMost(t *testing.T) {
	w := begun(t, 1, 4)
	got := impl.WorldRun(w, 100000, 500)
	if got.Code != impl.OK || got.World.Now != 2495 || len(got.World.Recs) != 1 {
		t.Errorf("500 steps of one node: got Code %d, Now %d, %d Recs", got.Code, got.World.Now, len(got.World.Recs))
	}
	if next := impl.WorldStep(got.World, 100000); next.Code != impl.OK || next.World.Now != 2500 {
		t.Errorf("the step behind these: got Code %d, Now %d", next.Code, next.World.Now)
	}
}

// rightChanges are of a hamlet that stays right.
func rightChanges() map[string]change {
	l := map[string]change{
		"as it is":               also(),
		"nobody is up":           upAre(),
		"one is up":              upAre(2),
		"an empty list of those": func(w *impl.World) { w.Up = []int64{} },
		"no Recs":                func(w *impl.World) { w.Recs = nil },
		"empty lists":            func(w *impl.World) { w.Recs, w.Queue, w.Faults = []impl.Rec{}, []impl.Due{}, []impl.Item{} },
		"MaxRecs":                func(w *impl.World) { w.Recs = slices.Repeat(oneOfEach()[:1], 400) },
		"Recs that fall":         downs(rec(900, 6, impl.RcView, 5, 5, 1), rec(3, 6, impl.RcCrash, 0, 0, 0)),
		"a Due at Now":           mailed(50, 10, plainMail2to1()),
		"a Due at the last time": mailed(lastTime, 10, plainMail2to1()),
		"two of one number":      also(mailed(50, 10, plainMail2to1()), mailed(51, 10, plainMail2to1())),
		"a Due of the number 0":  also(countIs(0), mailed(50, 0, plainMail2to1())),
		"MaxQueue": also(countIs(200), func(w *impl.World) {
			for seq := range int64(200) {
				mailed(60, seq, plainMail2to1())(w)
			}
		}),
		"a mail about one who is not there": mailed(60, 10, impl.Mail{Kind: impl.MlAsk, From: 2, To: 1, About: 6, Facts: []impl.Fact{gone(5, 5)}}),
		"a view of one who is not there":    inNode(1, func(n *impl.Node) { n.View = append(n.View, here(6, 6)) }),
		"an Inc below the node's":           func(w *impl.World) { w.Incs = []int64{0, 0, 0} },
		"an Inc at its bounds":              func(w *impl.World) { w.Incs = []int64{lastTime, 0, lastTime} },
		"one has left":                      hasLeftIn(2),
		"one node alone": func(w *impl.World) {
			w.Nodes, w.Up, w.Incs = w.Nodes[:1], []int64{1}, []int64{0}
		},
		"MaxNodes": func(w *impl.World) {
			for id := int64(4); id <= 6; id++ {
				w.Nodes = append(w.Nodes, impl.NodeNew(id, 0, 0, 0).Node)
			}
			w.Up, w.Incs = []int64{1, 2, 3, 4, 5, 6}, []int64{0, 0, 0, 0, 0, 0}
		},
	}
	putBounds(l, true, []int64{0, 1, 999799, 999800}, rightSeeds, []int64{0, 1, 62, 63}, []int64{0, 1, 99, 100}, []int64{0, 1, 8, 9}, []int64{0, 10, 99900, 99901, 100000})
	for what, faults := range rightFaults() {
		l["Faults, "+what] = befallen(faults...)
	}
	return l
}

// putBounds are changes of each number.
func putBounds(l map[string]change, right bool, nows, seeds, cuts, losses, delays, counts []int64) {
	what := map[bool]string{true: "right", false: "wrong"}[right]
	put := func(field string, nums []int64, set func(*impl.World, int64)) {
		for _, n := range nums {
			l[fmt.Sprint(field, " ", what, " ", n)] = func(w *impl.World) { set(w, n) }
		}
	}
	put("Now", nows, func(w *impl.World, n int64) { w.Now = n })
	put("Seed", seeds, func(w *impl.World, n int64) { w.Seed = n })
	put("Cut", cuts, func(w *impl.World, n int64) { w.Cut = n })
	put("Loss", losses, func(w *impl.World, n int64) { w.Loss = n })
	put("Delay", delays, func(w *impl.World, n int64) { w.Delay = n })
	put("Count", counts, func(w *impl.World, n int64) { w.Count = n })
}

// wrongChanges make a hamlet wrong, each by one thing.
func wrongChanges() map[string]change {
	due := func(d impl.Due) change { return func(w *impl.World) { w.Queue = append(w.Queue, d) } }
	told := func(m impl.Mail, node int64) change {
		return due(impl.Due{At: 60, Seq: 4, Node: node, Text: impl.MailBytes(m)})
	}
	far := func(m impl.Mail) change {
		return due(impl.Due{At: 60, Seq: 4, Node: m.To, Text: sealedBy(bodyOf(numsOf(m)...))})
	}
	bytes := impl.MailBytes(plainMail2to1())
	l := map[string]change{
		"the zero World":              func(w *impl.World) { *w = impl.World{} },
		"no nodes":                    func(w *impl.World) { w.Nodes, w.Up, w.Incs = nil, nil, nil },
		"no nodes, but Up":            func(w *impl.World) { w.Nodes, w.Incs = nil, nil },
		"an Up below":                 upAre(0, 1, 2),
		"an Up that is not there":     upAre(1, 2, 3, 4),
		"an Up alone, not there":      upAre(4),
		"an Up below 0":               upAre(-1),
		"an Up that does not rise":    upAre(1, 3, 2),
		"an Up of one twice":          upAre(1, 1, 2),
		"an Up of many":               func(w *impl.World) { w.Up = rising(401, 1, 1) },
		"an Inc too few":              func(w *impl.World) { w.Incs = w.Incs[:2] },
		"an Inc too many":             func(w *impl.World) { w.Incs = append(w.Incs, 0) },
		"no Incs":                     func(w *impl.World) { w.Incs = nil },
		"many Incs":                   func(w *impl.World) { w.Incs = make([]int64, 401) },
		"an Inc below 0":              func(w *impl.World) { w.Incs[0] = -1 },
		"an Inc too great":            func(w *impl.World) { w.Incs[2] = lastTime + 1 },
		"a Due ahead of Now":          mailed(49, 4, plainMail2to1()),
		"a Due too late":              mailed(lastTime+1, 4, plainMail2to1()),
		"a Due ahead of another":      also(mailed(49, 4, plainMail2to1()), mailed(60, 5, plainMail2to1())),
		"a Due of one more":           mailed(60, 11, plainMail2to1()),
		"a Due below 0":               mailed(60, -1, plainMail2to1()),
		"a Due of one more, last":     also(mailed(60, 10, plainMail2to1()), mailed(60, 11, plainMail2to1())),
		"Dues that fall":              also(mailed(61, 4, plainMail2to1()), mailed(60, 5, plainMail2to1())),
		"Dues that fall in number":    also(mailed(60, 5, plainMail2to1()), mailed(60, 4, plainMail2to1())),
		"a Due twice":                 also(mailed(60, 5, plainMail2to1()), mailed(60, 5, plainMail2to1())),
		"a Due without a text":        due(impl.Due{At: 60, Seq: 4, Node: 1}),
		"a Due whose text is no mail": due(impl.Due{At: 60, Seq: 4, Node: 1, Text: "a mail"}),
		"a Due whose text is cut":     due(impl.Due{At: 60, Seq: 4, Node: 1, Text: bytes[:len(bytes)-1]}),
		"a Due whose text is turned":  due(impl.Due{At: 60, Seq: 4, Node: 1, Text: "\x08" + bytes[1:]}),
		"a Due with a long text":      due(impl.Due{At: 60, Seq: 4, Node: 1, Text: someText(401)}),
		"a mail to another node":      told(plainMail2to1(), 3),
		"a mail to its own sender":    told(plainMail2to1(), 2),
		"a mail to no node":           told(plainMail2to1(), 0),
		"a mail from its own node":    far(impl.Mail{Kind: impl.MlTell, From: 1, To: 1, Num: 3}),
		"a mail from one not there":   told(impl.Mail{Kind: impl.MlTell, From: 4, To: 1, Num: 3}, 1),
		"a mail from 6":               told(impl.Mail{Kind: impl.MlPing, From: 6, To: 1, Num: 3}, 1),
		"a mail from no node":         far(impl.Mail{Kind: impl.MlTell, From: 7, To: 1, Num: 3}),
		"a mail to one not there":     told(impl.Mail{Kind: impl.MlTell, From: 1, To: 4, Num: 3}, 4),
		"a mail of no right number":   far(impl.Mail{Kind: impl.MlTell, From: 2, To: 1, Num: lastTime + 1}),
		"one more than MaxQueue": also(countIs(201), func(w *impl.World) {
			for seq := range int64(201) {
				mailed(60, seq, plainMail2to1())(w)
			}
		}),
		"many Dues":             func(w *impl.World) { w.Queue = make([]impl.Due, 401) },
		"one more than MaxRecs": func(w *impl.World) { w.Recs = slices.Repeat(oneOfEach()[:1], 401) },
		"many zero Recs":        func(w *impl.World) { w.Recs = make([]impl.Rec, 500) },
		"a zero Rec":            downs(impl.Rec{}),
		"a zero Rec at first":   func(w *impl.World) { w.Recs[0] = impl.Rec{} },
		"a Rec of no node":      downs(rec(50, 7, impl.RcCrash, 0, 0, 0)),
		"a Rec below 0":         downs(rec(-1, 1, impl.RcCrash, 0, 0, 0)),
		"many Faults":           befallen(make([]impl.Item, 401)...),
	}
	putBounds(l, false, append([]int64{999801, lastTime}, wrongTimes...), wrongSeeds, []int64{-1, 64, math.MinInt64, math.MaxInt64},
		[]int64{-1, 101, math.MinInt64, math.MaxInt64}, []int64{-1, 10, math.MinInt64, math.MaxInt64}, []int64{-1, 100001, math.MinInt64, math.MaxInt64})
	for what, faults := range wrongFaults() {
		l["Faults, "+what] = befallen(faults...)
	}
	putWrongVillages(l)
	return l
}

func putWrongVillages(l map[string]change) {
	for what, make := range wrongNodeChanges() {
		l["a node that is not right, "+what] = func(w *impl.World) {
			w.Nodes[2] = busy()
			make(&w.Nodes[2])
		}
	}
	l["nodes that do not rise"] = func(w *impl.World) { w.Nodes[0], w.Nodes[1] = w.Nodes[1], w.Nodes[0] }
	l["a node twice"] = func(w *impl.World) { w.Nodes[1] = w.Nodes[0] }
	l["nodes from 2 on"] = func(w *impl.World) { w.Nodes, w.Up, w.Incs = w.Nodes[1:], []int64{2, 3}, w.Incs[1:] }
	l["a node left out"] = func(w *impl.World) {
		w.Nodes, w.Up, w.Incs = append(w.Nodes[:1], w.Nodes[2:]...), []int64{1, 3}, w.Incs[:2]
	}
	l["one more than MaxNodes"] = func(w *impl.World) {
		for id := int64(4); id <= 6; id++ {
			w.Nodes = append(w.Nodes, impl.NodeNew(id, 0, 0, 0).Node)
		}
		w.Nodes, w.Incs = append(w.Nodes, w.Nodes[0]), make([]int64, 7)
	}
	l["many nodes"] = func(w *impl.World) { w.Nodes, w.Incs = make([]impl.Node, 401), make([]int64, 401) }
}

func wantWorldRight(t *testing.T, what string, w impl.World, right bool) {
	t.Helper()
	arg := roomyWorld(w)
	was := worldWithRoom(arg)
	if got := impl.WorldRight(arg); got != right {
		t.Errorf("WorldRight, %s: got %v: %s", what, got, brief(w))
	}
	if got := worldByRule(w); got != right {
		t.Errorf("WorldRight, %s: the rule has %v: %s", what, got, brief(w))
	}
	if !sameWorld(worldWithRoom(arg), was) {
		t.Errorf("WorldRight, %s: what was handed in was changed", what)
	}
}

func TestWorldRight(t *testing.T) {
	for what, c := range rightChanges() {
		w := worldWith(hamlet(), c)
		wantWorldRight(t, what, w, true)
		wantPlayed(t, what, w, running(lastTime, 0), impl.WorldOut{World: w})
		wantPlayed(t, what, w, stepping(lastTime), stepByRule(w, lastTime))
	}
}

func TestWorldNotRight(t *testing.T) {
	for what, c := range wrongChanges() {
		w := worldWith(hamlet(), c)
		wantWorldRight(t, what, w, false)
		wantNextAt(t, what, w, -1)
		for _, until := range []int64{-1, 60, lastTime} {
			wantPlayed(t, what, w, stepping(until), impl.WorldOut{Code: impl.ErrForm})
			for _, most := range []int64{-1, 0, 500} {
				wantPlayed(t, what, w, running(until, most), impl.WorldOut{Code: impl.ErrForm})
			}
		}
	}
}

// befall are Worlds as they begin, of each number of nodes, and what is to befall them.
func befall(t *testing.T, many int, call func(what string, w impl.World)) {
	t.Helper()
	r := rand.New(rand.NewSource(13))
	for i := range many {
		nodes := int64(i%6) + 1
		faults := someFaults(r, nodes, r.Intn(12), []int64{10, 40, 120, 2000}[r.Intn(4)])
		if i%40 == 0 {
			faults = someFaults(r, nodes, 60, 50)
		}
		seed := someOf(r, 0, lastSeed)
		call(fmt.Sprintf("%d nodes, seed %d, %+v", nodes, seed, faults), begun(t, nodes, seed, faults...))
	}
}

// Each step of what is played from the beginning, held against the rule.
func TestWorldByRule(t *testing.T) {
	befall(t, 120, func(what string, w impl.World) {
		want := w
		for range 400 {
			got, ruled := impl.WorldStep(w, 2000), stepByRule(want, 2000)
			if !sameWorldOut(got, ruled) {
				t.Fatalf("%s:\nbehind %s\ngot  Code %d, %s\nwant Code %d, %s", what, unlike(w, impl.World{}), got.Code, unlike(got.World, ruled.World), ruled.Code, unlike(ruled.World, got.World))
			}
			if got.Code != impl.OK {
				return
			}
			w, want = got.World, ruled.World
		}
	})
}

// One step, and some, of Worlds as they come.
func TestWorldsOfChance(t *testing.T) {
	r := rand.New(rand.NewSource(14))
	codes := map[int64]int{}
	for range 1500 {
		w := someWorld(r, false)
		wantWorldRight(t, "by chance", w, true)
		wantNextAt(t, "by chance", w, nextByRule(w))
		until := min(w.Now+r.Int63n(5), lastTime)
		want := stepByRule(w, until)
		codes[want.Code]++
		wantPlayed(t, "by chance", w, stepping(until), want)
		most := r.Int63n(12)
		wantPlayed(t, "by chance, run", w, running(until, most), runByRule(w, until, most))
	}
	if codes[impl.OK] < 300 || codes[impl.ErrNone] == 0 || codes[impl.ErrFull] == 0 {
		t.Errorf("not all was tried: %v", codes)
	}
}

// One thing of a right World turned at a time, held against the rule.
func TestWorldRightTurned(t *testing.T) {
	r := rand.New(rand.NewSource(15))
	wrongs := map[bool]int{}
	for range 4000 {
		w := plainWorldOf(someWorld(r, false))
		n := []int64{-1, 0, 1, 7, 61, 64, lastTime, lastTime + 1, math.MaxInt64, math.MinInt64, lastSeed + 1}[r.Intn(11)]
		fields := []*int64{&w.Now, &w.Seed, &w.Cut, &w.Loss, &w.Delay, &w.Count, &w.Incs[0], &w.Nodes[0].Id, &w.Nodes[len(w.Nodes)-1].Inc}
		for i := range w.Up {
			fields = append(fields, &w.Up[i])
		}
		for i := range w.Queue {
			fields = append(fields, &w.Queue[i].At, &w.Queue[i].Seq, &w.Queue[i].Node)
		}
		for i := range w.Faults {
			fields = append(fields, &w.Faults[i].At, &w.Faults[i].Kind, &w.Faults[i].A, &w.Faults[i].B)
		}
		for i := range w.Recs {
			fields = append(fields, &w.Recs[i].At, &w.Recs[i].Kind, &w.Recs[i].Node)
		}
		*fields[r.Intn(len(fields))] = n
		right := worldByRule(w)
		wrongs[right]++
		wantWorldRight(t, "turned", w, right)
		if !right && impl.WorldStep(w, 100).Code != impl.ErrForm {
			t.Errorf("a step of one that is not right: got Code %d: %s", impl.WorldStep(w, 100).Code, brief(w))
		}
	}
	if wrongs[true] < 100 || wrongs[false] < 1000 {
		t.Errorf("not both were tried: %v", wrongs)
	}
}

// Promise 13: a right World stays right, and nothing that was written down is turned.
func TestRightWorldStaysRight(t *testing.T) {
	r := rand.New(rand.NewSource(16))
	stays := func(what string, w impl.World, until int64, most int) {
		for range most {
			out := impl.WorldStep(w, until)
			if out.Code != impl.OK {
				return
			}
			next := out.World
			// The rule looks at few, as it takes its time.
			if !impl.WorldRight(next) || r.Intn(10) == 0 && !worldByRule(next) {
				t.Fatalf("%s: not right any more: %s, behind %s", what, unlike(next, w), unlike(w, next))
			}
			if next.Now < w.Now || next.Count < w.Count || len(next.Recs) < len(w.Recs) || !slices.Equal(next.Recs[:len(w.Recs)], w.Recs) {
				t.Fatalf("%s: what was written down is turned: %s, behind %s", what, unlike(next, w), unlike(w, next))
			}
			w = next
		}
	}
	befall(t, 240, func(what string, w impl.World) { stays(what, w, 2000, 500) })
	for range 1200 {
		stays("by chance", someWorld(r, true), lastTime, 20)
	}
}

// Promise 13: what is run is step by step the same.
func TestWorldRunIsStepByStep(t *testing.T) {
	r := rand.New(rand.NewSource(17))
	befall(t, 120, func(what string, w impl.World) {
		until, most := r.Int63n(300), r.Int63n(501)
		stepped := w
		for range most {
			out := impl.WorldStep(stepped, until)
			if out.Code != impl.OK {
				break
			}
			stepped = out.World
		}
		wantPlayed(t, what, w, running(until, most), impl.WorldOut{World: stepped})
		// In two parts, too.
		half := impl.WorldRun(w, until/2, most/2).World
		for range most {
			out := impl.WorldStep(half, until)
			if out.Code != impl.OK {
				break
			}
			half = out.World
		}
		wantPlayed(t, what+", in two parts", impl.WorldRun(w, until/2, most/2).World, running(until, most), impl.WorldOut{World: half})
	})
}

// heldByRecs is what each node that lives holds by what is written down.
func heldByRecs(l []impl.Rec) map[int64]map[int64]impl.Fact {
	held := map[int64]map[int64]impl.Fact{}
	for _, x := range l {
		switch x.Kind {
		case impl.RcStart:
			held[x.Node] = map[int64]impl.Fact{x.Node: here(x.Node, x.A)}
		case impl.RcCrash:
			delete(held, x.Node)
		case impl.RcView:
			held[x.Node][x.A] = fact(x.A, x.B, x.C)
		}
	}
	return held
}

// wantHeld: those that are up are those that live by what is written down, and hold
// just that.
func wantHeld(t *testing.T, what string, w impl.World) {
	t.Helper()
	held := heldByRecs(w.Recs)
	for _, n := range w.Nodes {
		lives := held[n.Id] != nil
		if lives != slices.Contains(w.Up, n.Id) {
			t.Fatalf("%s: node %d lives by what is written down: %v; Up are %v", what, n.Id, lives, w.Up)
		}
		if !lives {
			continue
		}
		var view []impl.Fact
		for node := int64(1); node <= 6; node++ {
			if f, there := held[n.Id][node]; there {
				view = append(view, f)
			}
		}
		if !slices.Equal(view, n.View) {
			t.Fatalf("%s: node %d holds %+v, by what is written down %+v", what, n.Id, n.View, view)
		}
	}
}

// recsSoFar is what is needed of what stands ahead to look at the next Rec.
type recsSoFar struct {
	at    int64
	sent  map[int64]impl.Rec
	got   map[int64]bool
	lives map[int64]bool
	held  map[int64]map[int64]impl.Fact
}

// mayFollow tells what is wrong with a Rec, if anything is.
func (s *recsSoFar) mayFollow(x impl.Rec) string {
	if x.At < s.at {
		return "it is earlier than the one ahead"
	}
	s.at = x.At
	if s.lives[x.Node] == (x.Kind == impl.RcStart) {
		return "its node lives or does not, where it should not"
	}
	switch x.Kind {
	case impl.RcStart:
		s.lives[x.Node], s.held[x.Node] = true, map[int64]impl.Fact{}
	case impl.RcCrash:
		s.lives[x.Node] = false
	case impl.RcSend:
		if x.A != int64(len(s.sent))+1 {
			return "its number is not one more"
		}
		s.sent[x.A] = x
	case impl.RcGot:
		if sent := s.sent[x.A]; sent.Node != x.B || sent.B != x.Node || sent.At >= x.At || s.got[x.A] {
			return "it was not sent so, or came already"
		}
		s.got[x.A] = true
	case impl.RcView:
		is, was := fact(x.A, x.B, x.C), s.held[x.Node][x.A]
		if was != (impl.Fact{}) && !impl.FactLess(was, is) {
			return "it is no more than what was held"
		}
		s.held[x.Node][x.A] = is
	}
	return ""
}

func wantFollowing(t *testing.T, what string, w impl.World) {
	t.Helper()
	s := &recsSoFar{sent: map[int64]impl.Rec{}, got: map[int64]bool{}, lives: map[int64]bool{}, held: map[int64]map[int64]impl.Fact{}}
	for i, x := range w.Recs {
		if wrong := s.mayFollow(x); wrong != "" {
			t.Fatalf("%s: %+v at %d: %s: %s", what, x, i, wrong, brief(w.Recs))
		}
	}
	if int64(len(s.sent)) != w.Count {
		t.Fatalf("%s: %d were sent, Count is %d", what, len(s.sent), w.Count)
	}
}

// Promise 14, of what can be said without the judge.
func TestWhatIsWrittenDownCanBe(t *testing.T) {
	kinds := map[int64]int{}
	befall(t, 300, func(what string, w impl.World) {
		for until := int64(0); until <= 2000; until = until*2 + 7 {
			w = impl.WorldRun(w, until, 500).World
			wantHeld(t, what, w)
			wantFollowing(t, what, w)
		}
		for _, x := range w.Recs {
			kinds[x.Kind]++
		}
	})
	for kind := int64(1); kind <= 6; kind++ {
		if kinds[kind] < 200 {
			t.Errorf("too few of the kind %d were written down: %v", kind, kinds)
		}
	}
}

// Promise 14 holds behind each step, too.
func TestWhatIsWrittenDownStepByStep(t *testing.T) {
	befall(t, 60, func(what string, w impl.World) {
		for {
			wantHeld(t, what, w)
			out := impl.WorldStep(w, 400)
			if out.Code != impl.OK {
				return
			}
			w = out.World
		}
	})
}

// How goroutines run is not to be seen in an answer, and none is left behind.
func TestWorldRunsBesideEachOther(t *testing.T) {
	w := begun(t, 6, 3, item(impl.PnDelay, 2, 9, 0), item(impl.PnLoss, 9, 20, 0), crash(12, 2), item(impl.PnLeave, 20, 5, 0))
	ahead := runtime.NumGoroutine()
	want := impl.WorldRun(w, 100, 500)
	var all sync.WaitGroup
	outs := make([]impl.WorldOut, 16)
	for i := range outs {
		all.Add(1)
		go func() {
			defer all.Done()
			outs[i] = impl.WorldRun(w, 100, 500)
		}()
	}
	all.Wait()
	for i, out := range outs {
		if !sameWorldOut(out, want) {
			t.Errorf("the run %d beside others: %s, want %s", i, unlike(out.World, want.World), unlike(want.World, out.World))
		}
	}
	for range 200 {
		impl.WorldStep(w, 100)
	}
	for range 1000 {
		if runtime.NumGoroutine() <= ahead {
			return
		}
		runtime.Gosched()
	}
	t.Errorf("%d goroutines were there ahead, %d are behind", ahead, runtime.NumGoroutine())
}

// What the words of the chapter do to a World that knows of a node that is not there,
// or has counted as far as may be: the step is done, the next one is refused.
func TestWorldThatDoesNotStayRight(t *testing.T) {
	far := worldWith(hamlet(), inNode(1, func(n *impl.Node) { n.Next, n.View = 60, append(n.View[:1], here(6, 6)) }))
	last := worldWith(hamlet(), inNode(1, func(n *impl.Node) { n.Next, n.Num = 60, lastTime }))
	for what, w := range map[string]impl.World{"a node that is not there": far, "the last Num": last} {
		out := impl.WorldStep(w, 60)
		if out.Code != impl.OK || impl.WorldRight(out.World) || len(out.World.Queue) != 1 || out.World.Count != 11 {
			t.Errorf("%s: got Code %d, %s", what, out.Code, brief(out.World))
		}
		wantPlayed(t, what, w, stepping(60), stepByRule(w, 60))
		wantPlayed(t, what+", run", w, running(1000, 500), runByRule(w, 1000, 500))
		if next := impl.WorldStep(out.World, 1000); !sameWorldOut(next, impl.WorldOut{Code: impl.ErrForm}) {
			t.Errorf("%s: the step behind it: got Code %d", what, next.Code)
		}
	}
}
