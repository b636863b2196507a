package tests

import (
	"cmp"
	"math"
	"math/rand"
	"reflect"
	"slices"
	"testing"

	"loop.example/g00678/impl"
)

// plainWorldOf copies all lists; those that are empty are nil.
func plainWorldOf(w impl.World) impl.World {
	w.Nodes = bare(w.Nodes)
	for i, n := range w.Nodes {
		w.Nodes[i] = plainNodeOf(n)
	}
	w.Up, w.Incs, w.Queue, w.Faults, w.Recs = bare(w.Up), bare(w.Incs), bare(w.Queue), bare(w.Faults), bare(w.Recs)
	return w
}

func sameWorld(a impl.World, b impl.World) bool {
	return reflect.DeepEqual(plainWorldOf(a), plainWorldOf(b))
}

func sameWorldOut(a impl.WorldOut, b impl.WorldOut) bool {
	return sameWorld(a.World, b.World) && a.Code == b.Code
}

// worldWith is a changed one of its own memory.
func worldWith(w impl.World, changes ...func(*impl.World)) impl.World {
	w = plainWorldOf(w)
	for _, change := range changes {
		change(&w)
	}
	return w
}

func roomyQueue(l []impl.Due) []impl.Due {
	room := make([]impl.Due, len(l)+4)
	for i := copy(room, l); i < len(room); i++ {
		room[i] = impl.Due{At: -9, Seq: int64(i), Node: -9, Text: "behind"}
	}
	return room[:len(l)]
}

func roomyNodes(l []impl.Node) []impl.Node {
	room := make([]impl.Node, len(l)+3)
	for i := copy(room, l); i < len(room); i++ {
		room[i] = impl.Node{Id: -9, Inc: int64(i)}
	}
	for i, n := range room {
		room[i] = roomyNode(n)
	}
	return room[:len(l)]
}

// roomyWorld has room behind all lists, in which a writer beyond their ends is seen.
func roomyWorld(w impl.World) impl.World {
	w.Nodes, w.Queue, w.Recs = roomyNodes(w.Nodes), roomyQueue(w.Queue), roomyRecs(w.Recs)
	w.Up, w.Incs, w.Faults = roomyNums(w.Up), roomyNums(w.Incs), roomyItems(w.Faults)
	return w
}

// worldWithRoom is a copy that has all lists up to the ends of their room.
func worldWithRoom(w impl.World) impl.World {
	w.Nodes, w.Queue, w.Recs = slices.Clone(w.Nodes[:cap(w.Nodes)]), w.Queue[:cap(w.Queue)], w.Recs[:cap(w.Recs)]
	w.Up, w.Incs, w.Faults = w.Up[:cap(w.Up)], w.Incs[:cap(w.Incs)], w.Faults[:cap(w.Faults)]
	for i, n := range w.Nodes {
		w.Nodes[i] = withRoom(n)
	}
	return plainWorldOf(w)
}

func textsShare(worlds []impl.World) bool {
	for i, w := range worlds {
		for _, d := range w.Queue {
			for _, other := range worlds[:i] {
				if slices.ContainsFunc(other.Queue, func(e impl.Due) bool { return shareMemory(d.Text, e.Text) }) {
					return true
				}
			}
		}
	}
	return false
}

// worldsShare tells whether two lists of these, or two texts of two of them, have
// memory in common.
func worldsShare(worlds ...impl.World) bool {
	var nodes [][]impl.Node
	var nums [][]int64
	var queues [][]impl.Due
	var faults [][]impl.Item
	var recs [][]impl.Rec
	var all []impl.Node
	for _, w := range worlds {
		nodes, queues, faults, recs = append(nodes, w.Nodes), append(queues, w.Queue), append(faults, w.Faults), append(recs, w.Recs)
		nums, all = append(nums, w.Up, w.Incs), append(all, w.Nodes...)
	}
	for _, n := range all {
		nums = append(nums, n.Turn.List)
	}
	return allShare(nodes...) || allShare(nums...) || allShare(queues...) || allShare(faults...) || allShare(recs...) ||
		textsShare(worlds) || outShares(impl.NodeOut{}, all)
}

// playing is a call for a World.
type playing func(impl.World) impl.WorldOut

func stepping(until int64) playing {
	return func(w impl.World) impl.WorldOut { return impl.WorldStep(w, until) }
}

func running(until int64, most int64) playing {
	return func(w impl.World) impl.WorldOut { return impl.WorldRun(w, until, most) }
}

// wantPlayed holds an answer against what is wanted, and looks that what was handed
// in and what stands behind it are as they were, and that no memory is shared.
func wantPlayed(t *testing.T, what string, w impl.World, call playing, want impl.WorldOut) {
	t.Helper()
	arg := roomyWorld(w)
	was := worldWithRoom(arg)
	got := call(arg)
	if !sameWorldOut(got, want) {
		t.Errorf("%s, of %s:\ngot  Code %d, %s\nwant Code %d, %s", what, brief(w), got.Code, unlike(got.World, want.World), want.Code, unlike(want.World, got.World))
	}
	if !reflect.DeepEqual(worldWithRoom(arg), was) {
		t.Errorf("%s, of %s: what was handed in was changed", what, brief(w))
	}
	if worldsShare(arg, got.World, call(arg).World) {
		t.Errorf("%s, of %s: memory is shared", what, brief(w))
	}
}

// unlike is what is told of a World that should be another one: the fields in which
// they are unlike, and of lists what is behind all that is alike.
func unlike(a impl.World, b impl.World) string {
	text := ""
	one, other := reflect.ValueOf(plainWorldOf(a)), reflect.ValueOf(plainWorldOf(b))
	for i := range one.NumField() {
		x, y := one.Field(i), other.Field(i)
		if reflect.DeepEqual(x.Interface(), y.Interface()) {
			continue
		}
		at := 0
		if x.Kind() == reflect.Slice {
			for at < min(x.Len(), y.Len()) && reflect.DeepEqual(x.Index(at).Interface(), y.Index(at).Interface()) {
				at++
			}
			x = x.Slice(at, x.Len())
		}
		text += one.Type().Field(i).Name + " from " + brief(at) + " on " + brief(x.Interface()) + "; "
	}
	return text
}

// playedByRule is a World that goes by the words of the chapter, one after the other.
type playedByRule struct {
	impl.World
}

func (p *playedByRule) chance(most int64) int64 {
	c := chanceByBig(p.Seed, most)
	p.Seed = c.Seed
	return c.N
}

func (p *playedByRule) down(node int64, kind int64, a int64, b int64, c int64) {
	p.Recs = append(p.Recs, rec(p.Now, node, kind, a, b, c))
}

func inBits(bits int64, node int64) bool {
	for range node - 1 {
		bits /= 2
	}
	return bits%2 == 1
}

func (p *playedByRule) send(mails []impl.Mail) {
	for _, m := range mails {
		p.Count++
		p.down(m.From, impl.RcSend, p.Count, m.To, 0)
		if p.chance(100) < p.Loss {
			continue
		}
		if inBits(p.Cut, m.From) != inBits(p.Cut, m.To) {
			continue
		}
		d := int64(0)
		if p.Delay > 0 {
			d = p.chance(p.Delay + 1)
		}
		if len(p.Queue) == 200 {
			continue
		}
		p.Queue = append(p.Queue, impl.Due{At: p.Now + 1 + d, Seq: p.Count, Node: m.To, Text: impl.MailBytes(m)})
		slices.SortFunc(p.Queue, func(a, b impl.Due) int { return cmp.Or(cmp.Compare(a.At, b.At), cmp.Compare(a.Seq, b.Seq)) })
	}
}

// views are the Facts that a view has and another one has not.
func views(v []impl.Fact, ahead []impl.Fact) []impl.Fact {
	return slices.DeleteFunc(slices.Clone(v), func(f impl.Fact) bool { return slices.Contains(ahead, f) })
}

func (p *playedByRule) becomes(out impl.NodeOut) {
	id := out.Node.Id
	if out.Missed != 0 {
		p.down(id, impl.RcMiss, out.Missed, 0, 0)
	}
	for _, f := range views(out.Node.View, p.Nodes[id-1].View) {
		p.down(id, impl.RcView, f.Node, f.Inc, f.Status)
	}
	p.Nodes[id-1] = out.Node
	p.send(out.Mails)
}

func (p *playedByRule) isUp(id int64) bool {
	return slices.Contains(p.Up, id)
}

func (p *playedByRule) hasLeft(id int64) bool {
	return slices.ContainsFunc(p.Nodes[id-1].View, func(f impl.Fact) bool { return f.Node == id && f.Status == impl.StGone })
}

func (p *playedByRule) starts(id int64) {
	if p.isUp(id) || p.Incs[id-1] == lastTime {
		return
	}
	p.Incs[id-1]++
	inc := p.Incs[id-1]
	p.Nodes[id-1] = impl.NodeNew(id, inc, p.chance(lastTime), p.Now).Node
	p.down(id, impl.RcStart, inc, 0, 0)
	p.Up = append(p.Up, id)
	if len(p.Up) > 1 {
		p.becomes(metByRule(p.Nodes[id-1], slices.Min(p.Up[:len(p.Up)-1])))
	}
	slices.Sort(p.Up)
}

func (p *playedByRule) crashes(id int64) {
	if !p.isUp(id) {
		return
	}
	p.down(id, impl.RcCrash, 0, 0, 0)
	p.Incs[id-1] = p.Nodes[id-1].Inc
	p.Up = slices.DeleteFunc(p.Up, func(n int64) bool { return n == id })
}

func (p *playedByRule) befalls(x impl.Item) {
	switch x.Kind {
	case impl.PnCrash:
		p.crashes(x.A)
	case impl.PnStart:
		p.starts(x.A)
	case impl.PnLeave:
		if p.isUp(x.A) && !p.hasLeft(x.A) {
			p.becomes(partedByRule(p.Nodes[x.A-1]))
		}
	case impl.PnCut:
		p.Cut = x.A
	case impl.PnHeal:
		p.Cut = 0
	case impl.PnLoss:
		p.Loss = x.A
	case impl.PnDelay:
		p.Delay = x.A
	}
}

func wakeByRule(n impl.Node) int64 {
	at := n.Next
	if n.Probe.Node != 0 && n.Probe.Due < at {
		at = n.Probe.Due
	}
	for _, d := range n.Doubts {
		if d.Due < at {
			at = d.Due
		}
	}
	return at
}

// nextByRule is what is wanted of NextAt of a right one.
func nextByRule(w impl.World) int64 {
	p, at := playedByRule{w}, int64(math.MaxInt64)
	for _, x := range w.Faults {
		at = min(at, x.At)
	}
	for _, d := range w.Queue {
		at = min(at, d.At)
	}
	for _, n := range w.Nodes {
		if p.isUp(n.Id) && !p.hasLeft(n.Id) {
			at = min(at, wakeByRule(n))
		}
	}
	if at == math.MaxInt64 {
		return -1
	}
	return max(w.Now, at)
}

func (p *playedByRule) does() {
	if len(p.Faults) > 0 && p.Faults[0].At <= p.Now {
		x := p.Faults[0]
		p.Faults = p.Faults[1:]
		p.befalls(x)
		return
	}
	if len(p.Queue) > 0 && p.Queue[0].At <= p.Now {
		d := p.Queue[0]
		p.Queue = p.Queue[1:]
		if p.isUp(d.Node) {
			m := impl.MailRead(d.Text).Mail
			p.down(d.Node, impl.RcGot, d.Seq, m.From, 0)
			p.becomes(heardByRule(p.Nodes[d.Node-1], m, p.Now))
		}
		return
	}
	for _, n := range p.Nodes {
		if p.isUp(n.Id) && !p.hasLeft(n.Id) && wakeByRule(n) <= p.Now {
			p.becomes(wokenByRule(n, p.Now))
			return
		}
	}
}

// stepByRule is what is wanted of WorldStep.
func stepByRule(w impl.World, until int64) impl.WorldOut {
	if !worldByRule(w) || !between(until, 0, lastTime) {
		return impl.WorldOut{Code: impl.ErrForm}
	}
	at := nextByRule(w)
	if at == -1 || at > until {
		return impl.WorldOut{Code: impl.ErrNone}
	}
	if len(w.Recs) > 360 || w.Count > 99900 || at > 999800 {
		return impl.WorldOut{Code: impl.ErrFull}
	}
	p := playedByRule{plainWorldOf(w)}
	p.Now = at
	p.does()
	return impl.WorldOut{World: p.World}
}

// runByRule is what is wanted of WorldRun.
func runByRule(w impl.World, until int64, most int64) impl.WorldOut {
	if !worldByRule(w) || !between(until, 0, lastTime) || !between(most, 0, 500) {
		return impl.WorldOut{Code: impl.ErrForm}
	}
	out := impl.WorldOut{World: w}
	for range most {
		next := stepByRule(out.World, until)
		if next.Code != impl.OK {
			break
		}
		out = next
	}
	return out
}

// newByRule is what is wanted of WorldNew.
func newByRule(nodes int64, seed int64, faults []impl.Item) impl.WorldOut {
	if len(faults) > 400 {
		return impl.WorldOut{Code: impl.ErrSize}
	}
	if !between(nodes, 1, 6) || !between(seed, 0, lastSeed) || !faultsOfByRule(faults, nodes) {
		return impl.WorldOut{Code: impl.ErrForm}
	}
	p := playedByRule{impl.World{Seed: seed, Faults: bare(faults)}}
	for id := int64(1); id <= nodes; id++ {
		p.Nodes = append(p.Nodes, impl.NodeNew(id, 0, p.chance(lastTime), 0).Node)
		p.Up, p.Incs = append(p.Up, id), append(p.Incs, 0)
	}
	for id := int64(1); id <= nodes; id++ {
		p.down(id, impl.RcStart, 0, 0, 0)
		if id != 1 {
			p.becomes(metByRule(p.Nodes[id-1], 1))
		}
	}
	return impl.WorldOut{World: p.World}
}

func faultsOfByRule(l []impl.Item, nodes int64) bool {
	for i, x := range l {
		if !itemByRule(x) || x.Kind == impl.PnLoop || x.Kind == impl.PnEnd {
			return false
		}
		if (x.Kind == impl.PnCrash || x.Kind == impl.PnStart || x.Kind == impl.PnLeave) && x.A > nodes {
			return false
		}
		if i > 0 && x.At < l[i-1].At {
			return false
		}
	}
	return len(l) <= 60
}

func queueOfByRule(w impl.World) bool {
	nodes := int64(len(w.Nodes))
	for i, d := range w.Queue {
		if !between(d.At, w.Now, lastTime) || !between(d.Seq, 0, w.Count) || !between(d.Node, 1, nodes) || len(d.Text) > 400 {
			return false
		}
		if i > 0 && (d.At < w.Queue[i-1].At || d.At == w.Queue[i-1].At && d.Seq <= w.Queue[i-1].Seq) {
			return false
		}
		m := impl.MailRead(d.Text)
		if m.Code != impl.OK || m.Mail.To != d.Node || m.Mail.From == d.Node || !between(m.Mail.From, 1, nodes) {
			return false
		}
	}
	return len(w.Queue) <= 200
}

// worldByRule is what is wanted of WorldRight.
func worldByRule(w impl.World) bool {
	nodes := int64(len(w.Nodes))
	if !between(w.Now, 0, 999800) || !between(w.Seed, 0, lastSeed) || !between(nodes, 1, 6) || len(w.Incs) != int(nodes) {
		return false
	}
	for i, n := range w.Nodes {
		if n.Id != int64(i+1) || !impl.NodeRight(n) || !between(w.Incs[i], 0, lastTime) {
			return false
		}
	}
	for i, id := range w.Up {
		if !between(id, 1, nodes) || i > 0 && id <= w.Up[i-1] {
			return false
		}
	}
	for _, r := range w.Recs {
		if !recByRule(r) {
			return false
		}
	}
	return queueOfByRule(w) && faultsOfByRule(w.Faults, nodes) && len(w.Recs) <= 400 &&
		between(w.Cut, 0, 63) && between(w.Loss, 0, 100) && between(w.Delay, 0, 9) && between(w.Count, 0, 100000)
}

// someFaults are many right ones for so many nodes, at no more than a time.
func someFaults(r *rand.Rand, nodes int64, many int, most int64) []impl.Item {
	var l []impl.Item
	for range many {
		x := someItem(r, 1+r.Int63n(7), true)
		x.At = r.Int63n(most + 1)
		switch x.Kind {
		case impl.PnCrash, impl.PnStart, impl.PnLeave:
			x.A = 1 + r.Int63n(nodes)
		case impl.PnLoss:
			x.A = []int64{0, 10, 30, 100, r.Int63n(101)}[r.Intn(5)]
		}
		l = append(l, x)
	}
	slices.SortStableFunc(l, func(a, b impl.Item) int { return cmp.Compare(a.At, b.At) })
	return l
}

// onlyThere are those of a list that are about a node of a World of so many.
func onlyThere[T any](l []T, nodes int64, about func(T) int64) []T {
	return slices.DeleteFunc(slices.Clone(l), func(x T) bool { return about(x) > nodes })
}

func self(n int64) int64 { return n }

func aboutOf(f impl.Fact) int64 { return f.Node }

// atHome is the node without what it knows of nodes that are not there, far from
// the last Num that there is.
func atHome(n impl.Node, nodes int64) impl.Node {
	n.Num = min(n.Num, lastTime-1000)
	n.View = onlyThere(n.View, nodes, aboutOf)
	n.Rumors = onlyThere(n.Rumors, nodes, func(r impl.Rumor) int64 { return r.Fact.Node })
	n.Doubts = onlyThere(n.Doubts, nodes, func(d impl.Doubt) int64 { return d.Node })
	n.Turn = impl.Turn{List: onlyThere(n.Turn.List, nodes, self)}
	if n.Probe.Node > nodes {
		n.Probe = impl.Probe{}
	}
	return n
}

// someHomeMail is a right one between two nodes of a World of so many, of two or
// more, and, if home, about none that is not there.
func someHomeMail(r *rand.Rand, nodes int64, home bool) impl.Mail {
	m, order := someMail(r), r.Perm(int(nodes))
	m.From, m.To = int64(order[0])+1, int64(order[1])+1
	if home {
		m.Facts, m.For = onlyThere(m.Facts, nodes, aboutOf), m.For%(nodes+1)
	}
	switch {
	case m.Kind == impl.MlAsk && nodes == 2:
		m.Kind, m.About = impl.MlPing, 0
	case m.Kind == impl.MlAsk:
		m.About = int64(order[2]) + 1
	case m.Kind == impl.MlAck && home:
		m.About = m.About%nodes + 1
	}
	return m
}

// someQueue has many mails on their way, in a World of two nodes or more.
func someQueue(r *rand.Rand, w impl.World, many int, home bool) []impl.Due {
	var l []impl.Due
	for i := range many {
		m := someHomeMail(r, int64(len(w.Nodes)), home)
		l = append(l, impl.Due{At: w.Now + r.Int63n(8), Seq: w.Count - int64(i), Node: m.To, Text: impl.MailBytes(m)})
	}
	slices.SortFunc(l, func(a, b impl.Due) int { return cmp.Or(cmp.Compare(a.At, b.At), cmp.Compare(a.Seq, b.Seq)) })
	return l
}

// someWorld is a right one, of which much is due about its Now; home: its nodes and
// mails know of none that is not there.
func someWorld(r *rand.Rand, home bool) impl.World {
	nodes := 1 + r.Int63n(6)
	w := impl.World{Now: someOf(r, 0, 900), Seed: someOf(r, 0, lastSeed), Count: 50 + r.Int63n(90000)}
	if r.Intn(6) == 0 {
		w.Now = 999800 - r.Int63n(6)
	}
	if r.Intn(12) == 0 {
		w.Count = 99890 + r.Int63n(20)
	}
	for id := int64(1); id <= nodes; id++ {
		n := someNode(r, w.Now)
		for n.Id != id {
			n = someNode(r, w.Now)
		}
		if home {
			n = atHome(n, nodes)
		}
		w.Nodes, w.Incs = append(w.Nodes, n), append(w.Incs, someOf(r, 0, lastTime))
		if r.Intn(5) > 0 {
			w.Up = append(w.Up, id)
		}
	}
	if nodes > 1 {
		w.Queue = someQueue(r, w, []int{0, 1, 5, 40}[r.Intn(4)], home)
	}
	w.Faults = someFaults(r, nodes, r.Intn(6), min(w.Now+3, 2000))
	w.Cut, w.Loss, w.Delay = someOf(r, 0, 63), []int64{0, 0, 30, 100}[r.Intn(4)], someOf(r, 0, 9)
	w.Recs = someRecs(r, []int{0, 1, 19, 350 + r.Intn(20)}[r.Intn(4)])
	return w
}

// begun is a World of so many nodes, as it begins.
func begun(t *testing.T, nodes int64, seed int64, faults ...impl.Item) impl.World {
	t.Helper()
	out := impl.WorldNew(nodes, seed, faults)
	if out.Code != impl.OK {
		t.Fatalf("WorldNew of %d, %d, %v: got Code %d", nodes, seed, faults, out.Code)
	}
	return out.World
}
