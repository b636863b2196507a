package tests

import (
	"maps"
	"math/rand"
	"reflect"
	"slices"
	"testing"

	"loop.example/g00678/impl"
)

func fact(node int64, inc int64, status int64) impl.Fact {
	return impl.Fact{Node: node, Inc: inc, Status: status}
}

func here(node int64, inc int64) impl.Fact    { return fact(node, inc, impl.StHere) }
func doubted(node int64, inc int64) impl.Fact { return fact(node, inc, impl.StDoubt) }
func gone(node int64, inc int64) impl.Fact    { return fact(node, inc, impl.StGone) }

func rumorOf(f impl.Fact, sent int64) impl.Rumor {
	return impl.Rumor{Fact: f, Sent: sent}
}

// villager is node 3, of the Inc 7, which could ask 1, 2 and 5; nothing of it is
// due before 200.
func villager() impl.Node {
	return impl.Node{
		Id: 3, Inc: 7, Num: 40, Seed: 2, Next: 200,
		View: []impl.Fact{here(1, 4), here(2, 0), here(3, 7), here(5, 9), gone(6, 2)},
		Turn: impl.Turn{List: []int64{5, 1, 2}, At: 1},
	}
}

// busy has some of everything.
func busy() impl.Node {
	n := villager()
	n.View = []impl.Fact{here(1, 4), doubted(2, 0), here(3, 7), doubted(5, 9), gone(6, 2)}
	n.Rumors = []impl.Rumor{rumorOf(doubted(5, 9), 1), rumorOf(here(3, 7), 3), rumorOf(doubted(2, 0), 0)}
	n.Probe = impl.Probe{Node: 1, Num: 40, Due: 150, Asked: true}
	n.Doubts = []impl.Doubt{{Node: 2, Inc: 0, Due: 160}, {Node: 5, Inc: 9, Due: 158}}
	return n
}

// nodeWith is a changed one of its own memory.
func nodeWith(n impl.Node, change func(*impl.Node)) impl.Node {
	n = plainNodeOf(n)
	change(&n)
	return n
}

func leftOne(n impl.Node) impl.Node {
	return nodeWith(n, func(n *impl.Node) {
		for i, f := range n.View {
			if f.Node == n.Id {
				n.View[i].Status = impl.StGone
			}
		}
	})
}

// bare is a new list, which is nil, if there is nothing in it.
func bare[T any](l []T) []T {
	return append([]T(nil), l...)
}

// plainNodeOf copies all lists; those that are empty are nil.
func plainNodeOf(n impl.Node) impl.Node {
	n.View, n.Rumors, n.Turn.List, n.Doubts = bare(n.View), bare(n.Rumors), bare(n.Turn.List), bare(n.Doubts)
	return n
}

func plainOutOf(out impl.NodeOut) impl.NodeOut {
	out.Node, out.Mails = plainNodeOf(out.Node), bare(out.Mails)
	for i, m := range out.Mails {
		out.Mails[i].Facts = bare(m.Facts)
	}
	return out
}

func roomyDoubts(l []impl.Doubt) []impl.Doubt {
	room := make([]impl.Doubt, len(l)+4)
	for i := copy(room, l); i < len(room); i++ {
		room[i] = impl.Doubt{Node: -9, Inc: int64(i), Due: -9}
	}
	return room[:len(l)]
}

// roomyNode has room behind all lists, in which a writer beyond their ends is seen.
func roomyNode(n impl.Node) impl.Node {
	n.View, n.Rumors, n.Turn.List, n.Doubts = roomy(n.View), roomyRumors(n.Rumors), roomyNums(n.Turn.List), roomyDoubts(n.Doubts)
	return n
}

// withRoom has all lists up to the ends of their room.
func withRoom(n impl.Node) impl.Node {
	n.View, n.Rumors = n.View[:cap(n.View)], n.Rumors[:cap(n.Rumors)]
	n.Turn.List, n.Doubts = n.Turn.List[:cap(n.Turn.List)], n.Doubts[:cap(n.Doubts)]
	return n
}

// doing is a call for a node; those that hear nothing leave the mail alone.
type doing func(impl.Node, impl.Mail) impl.NodeOut

func waking(now int64) doing {
	return func(n impl.Node, _ impl.Mail) impl.NodeOut { return impl.NodeWake(n, now) }
}

func hearing(now int64) doing {
	return func(n impl.Node, m impl.Mail) impl.NodeOut { return impl.NodeHear(n, m, now) }
}

func meeting(other int64) doing {
	return func(n impl.Node, _ impl.Mail) impl.NodeOut { return impl.NodeMeet(n, other) }
}

func leaving(n impl.Node, _ impl.Mail) impl.NodeOut {
	return impl.NodeLeave(n)
}

// allShare tells whether two of these lists have memory in common.
func allShare[T any](lists ...[]T) bool {
	for i, a := range lists {
		for _, b := range lists[:i] {
			if listsShare(a, b) {
				return true
			}
		}
	}
	return false
}

// outShares tells whether two lists of an answer and of others have memory in common.
func outShares(out impl.NodeOut, others []impl.Node, heard ...[]impl.Fact) bool {
	facts, rumors := append(heard, out.Node.View), [][]impl.Rumor{out.Node.Rumors}
	turns, doubts := [][]int64{out.Node.Turn.List}, [][]impl.Doubt{out.Node.Doubts}
	for _, m := range out.Mails {
		facts = append(facts, m.Facts)
	}
	for _, n := range others {
		facts, rumors = append(facts, n.View), append(rumors, n.Rumors)
		turns, doubts = append(turns, n.Turn.List), append(doubts, n.Doubts)
	}
	return allShare(facts...) || allShare(rumors...) || allShare(turns...) || allShare(doubts...)
}

// wantDone holds an answer against what is wanted, and looks that what was handed
// in and what stands behind it are as they were, and that no memory is shared.
func wantDone(t *testing.T, what string, n impl.Node, m impl.Mail, call doing, want impl.NodeOut) {
	t.Helper()
	n, m.Facts = roomyNode(n), roomy(m.Facts)
	was, heard := plainNodeOf(withRoom(n)), bare(m.Facts[:cap(m.Facts)])
	got := call(n, m)
	if !reflect.DeepEqual(plainOutOf(got), plainOutOf(want)) {
		t.Errorf("%s, of %.800v, %.300v:\ngot  %+v\nwant %+v", what, n, m, got, want)
	}
	if !reflect.DeepEqual(plainNodeOf(withRoom(n)), was) || !slices.Equal(m.Facts[:cap(m.Facts)], heard) {
		t.Errorf("%s, of %.800v, %.300v: what was handed in was changed", what, was, heard)
	}
	again := call(n, m)
	if outShares(got, []impl.Node{n, again.Node}, m.Facts) {
		t.Errorf("%s, of %.800v, %.300v: memory is shared", what, n, m)
	}
	if listsShare(got.Mails, again.Mails) {
		t.Errorf("%s, of %.800v, %.300v: two answers share memory", what, n, m)
	}
}

// ruled is a node that goes by the words of the chapter, one after the other; what
// it holds true and doubts is kept by node.
type ruled struct {
	node   impl.Node
	view   map[int64]impl.Fact
	doubts map[int64]impl.Doubt
	now    int64
	out    impl.NodeOut
}

func ruledOf(n impl.Node, now int64) *ruled {
	u := &ruled{node: plainNodeOf(n), view: map[int64]impl.Fact{}, doubts: map[int64]impl.Doubt{}, now: now}
	for _, f := range n.View {
		u.view[f.Node] = f
	}
	for _, d := range n.Doubts {
		u.doubts[d.Node] = d
	}
	return u
}

// whole is all that the node holds true.
func (u *ruled) whole() []impl.Fact {
	var v []impl.Fact
	for _, node := range slices.Sorted(maps.Keys(u.view)) {
		v = append(v, u.view[node])
	}
	return v
}

func (u *ruled) told() impl.NodeOut {
	u.node.View, u.node.Doubts = u.whole(), nil
	for _, node := range slices.Sorted(maps.Keys(u.doubts)) {
		u.node.Doubts = append(u.node.Doubts, u.doubts[node])
	}
	u.out.Node = u.node
	return u.out
}

func (u *ruled) left() bool {
	return u.view[u.node.Id].Status == impl.StGone
}

// notGoneBut are the nodes that are not gone, but these.
func (u *ruled) notGoneBut(buts ...int64) []int64 {
	var nodes []int64
	for node := int64(1); node <= 6; node++ {
		if f, there := u.view[node]; there && f.Status != impl.StGone && !slices.Contains(buts, node) {
			nodes = append(nodes, node)
		}
	}
	return nodes
}

func (u *ruled) put(f impl.Fact) {
	u.view[f.Node] = f
	u.node.Rumors = putByRule(u.node.Rumors, f).Rumors
}

func (u *ruled) learn(f impl.Fact) {
	held, there := u.view[f.Node]
	if f.Node == u.node.Id {
		if f.Status != impl.StHere && f.Inc >= u.node.Inc && f.Inc != lastTime && !u.left() {
			u.node.Inc = f.Inc + 1
			u.put(here(f.Node, f.Inc+1))
		}
		return
	}
	if there && (f.Inc < held.Inc || f.Inc == held.Inc && f.Status <= held.Status) {
		return
	}
	u.put(f)
	delete(u.doubts, f.Node)
	if f.Status == impl.StDoubt {
		u.doubts[f.Node] = impl.Doubt{Node: f.Node, Inc: f.Inc, Due: u.now + 12}
	}
}

func (u *ruled) send(m impl.Mail) {
	m.From = u.node.Id
	if m.Kind == impl.MlSync || m.Kind == impl.MlTell {
		m.Facts = u.whole()
	} else {
		pick := pickByRule(u.node.Rumors, m.To)
		u.node.Rumors, m.Facts = pick.Rumors, pick.Facts
	}
	u.out.Mails = append(u.out.Mails, m)
}

func (u *ruled) wakeDoubts() {
	for node := int64(1); node <= 6; node++ {
		d, there := u.doubts[node]
		if !there || d.Due > u.now {
			continue
		}
		delete(u.doubts, node)
		if u.view[node] == doubted(node, d.Inc) {
			u.learn(gone(node, d.Inc))
		}
	}
}

func (u *ruled) wakeProbe() {
	p := &u.node.Probe
	if p.Node == 0 || p.Due > u.now {
		return
	}
	others := u.notGoneBut(u.node.Id, p.Node)
	if !p.Asked && len(others) > 0 {
		some := someByRule(others, 2, u.node.Seed)
		u.node.Seed = some.Seed
		p.Asked, p.Due = true, u.now+3
		for _, to := range some.List {
			u.send(impl.Mail{Kind: impl.MlAsk, To: to, Num: p.Num, About: p.Node})
		}
		return
	}
	u.out.Missed = p.Node
	*p = impl.Probe{}
	if held := u.view[u.out.Missed]; held.Status == impl.StHere {
		u.learn(doubted(held.Node, held.Inc))
	}
}

func (u *ruled) wakeNext() {
	if u.node.Next > u.now {
		return
	}
	u.node.Next = u.now + 5
	others := u.notGoneBut(u.node.Id)
	if u.node.Probe.Node != 0 || len(others) == 0 {
		return
	}
	next := turnByRule(u.node.Turn, others, u.node.Seed)
	u.node.Turn, u.node.Seed = next.Turn, next.Seed
	u.node.Num++
	u.send(impl.Mail{Kind: impl.MlPing, To: next.Node, Num: u.node.Num})
	u.node.Probe = impl.Probe{Node: next.Node, Num: u.node.Num, Due: u.now + 3}
}

// wokenByRule is what is wanted of NodeWake of right ones.
func wokenByRule(n impl.Node, now int64) impl.NodeOut {
	u := ruledOf(n, now)
	if !u.left() {
		u.wakeDoubts()
		u.wakeProbe()
		u.wakeNext()
	}
	return u.told()
}

// heardByRule is what is wanted of NodeHear of right ones.
func heardByRule(n impl.Node, m impl.Mail, now int64) impl.NodeOut {
	if m.To != n.Id {
		return impl.NodeOut{Code: impl.ErrNone}
	}
	u := ruledOf(n, now)
	if u.left() {
		return u.told()
	}
	for _, f := range m.Facts {
		u.learn(f)
	}
	switch {
	case m.Kind == impl.MlPing:
		u.send(impl.Mail{Kind: impl.MlAck, To: m.From, Num: m.Num, About: n.Id, For: m.For})
	case m.Kind == impl.MlAck && m.For != 0 && m.For != n.Id:
		u.send(impl.Mail{Kind: impl.MlAck, To: m.For, Num: m.Num, About: m.About})
	case m.Kind == impl.MlAck && m.Num == n.Probe.Num && m.About == n.Probe.Node:
		u.node.Probe = impl.Probe{}
	case m.Kind == impl.MlAsk:
		u.send(impl.Mail{Kind: impl.MlPing, To: m.About, Num: m.Num, For: m.From})
	case m.Kind == impl.MlSync:
		u.send(impl.Mail{Kind: impl.MlTell, To: m.From, Num: m.Num})
	}
	return u.told()
}

// metByRule is what is wanted of NodeMeet of right ones.
func metByRule(n impl.Node, other int64) impl.NodeOut {
	u := ruledOf(n, 0)
	u.node.Num++
	u.send(impl.Mail{Kind: impl.MlSync, To: other, Num: u.node.Num})
	return u.told()
}

// partedByRule is what is wanted of NodeLeave of right ones.
func partedByRule(n impl.Node) impl.NodeOut {
	u := ruledOf(n, 0)
	if u.left() {
		return impl.NodeOut{Code: impl.ErrState}
	}
	u.view[n.Id] = gone(n.Id, n.Inc)
	u.node.Num++
	for _, to := range u.notGoneBut(n.Id) {
		u.send(impl.Mail{Kind: impl.MlTell, To: to, Num: u.node.Num})
	}
	return u.told()
}

// timeNear is a time about now, or, at times, any.
func timeNear(r *rand.Rand, now int64) int64 {
	if r.Intn(10) == 0 {
		return r.Int63n(lastTime + 1)
	}
	return min(max(now+r.Int63n(9)-4, 0), lastTime)
}

// someNode is a right one, of which much is due about now; its Num may be one more.
func someNode(r *rand.Rand, now int64) impl.Node {
	n := impl.Node{Id: 1 + r.Int63n(6), Num: r.Int63n(lastTime), Seed: r.Int63n(lastSeed + 1), Next: timeNear(r, now)}
	of := someRanks(r)
	// Of the ranks from 1 on the first of each three is StHere, the third StGone.
	of[n.Id-1] = 3*r.Intn(5) + 1
	if r.Intn(12) == 0 {
		of[n.Id-1] += 2
	}
	n.View = of.view()
	n.Inc = impl.ViewAt(n.View, n.Id).Inc
	n.Rumors = someRumors(r)
	for _, i := range r.Perm(impl.MaxNodes)[:r.Intn(impl.MaxNodes+1)] {
		n.Turn.List = append(n.Turn.List, int64(i)+1)
	}
	n.Turn.At = r.Int63n(int64(len(n.Turn.List)) + 1)
	other := otherThan(r, n.Id)
	if r.Intn(3) > 0 {
		n.Probe = impl.Probe{Node: other, Num: r.Int63n(lastTime + 1), Due: timeNear(r, now), Asked: r.Intn(2) == 0}
	}
	for node := int64(1); node <= 6; node++ {
		if node == n.Id || r.Intn(3) == 0 {
			continue
		}
		inc := impl.ViewAt(n.View, node).Inc
		if r.Intn(4) == 0 {
			inc = r.Int63n(lastTime + 1)
		}
		n.Doubts = append(n.Doubts, impl.Doubt{Node: node, Inc: inc, Due: timeNear(r, now)})
	}
	return n
}

func otherThan(r *rand.Rand, node int64) int64 {
	return (node-1+1+r.Int63n(5))%6 + 1
}

// someMailFor is a right one, mostly to that node, and often about what it asks.
func someMailFor(r *rand.Rand, n impl.Node) impl.Mail {
	m := someMail(r)
	if r.Intn(10) > 0 {
		m.To, m.From = n.Id, otherThan(r, n.Id)
		for m.Kind == impl.MlAsk && (m.About == m.To || m.About == m.From) {
			m.About = m.About%6 + 1
		}
	}
	if m.Kind == impl.MlAck && n.Probe.Node != 0 && r.Intn(2) == 0 {
		m.Num, m.About, m.For = n.Probe.Num, n.Probe.Node, []int64{0, n.Id, m.For}[r.Intn(3)]
	}
	return m
}
