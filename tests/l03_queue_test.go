package tests

import (
	"math"
	"math/rand"
	"slices"
	"strconv"
	"strings"
	"testing"

	"loop.example/g00678/impl"
)

const lastTime = 1000000

// dues are many of them, two of each At, by turns of the nodes 0 to 4.
func dues(many int) []impl.Due {
	var l []impl.Due
	for i := range many {
		l = append(l, impl.Due{At: int64(10 + i/2*3), Seq: int64(5 + i%2*2), Node: int64(i % 5), Text: strings.Repeat("due ", i%3) + strconv.Itoa(i)})
	}
	return l
}

// changedDue is a queue of many, of which the one at a place is changed.
func changedDue(many int, at int, change func(*impl.Due)) []impl.Due {
	l := dues(many)
	change(&l[at])
	return l
}

// wantQueue holds an answer against what is wanted, and looks that the argument
// is as it was and that neither lists nor texts share memory.
func wantQueue(t *testing.T, what string, l []impl.Due, call func([]impl.Due) impl.QueueOut, want impl.QueueOut) {
	t.Helper()
	arg := slices.Clone(l)
	got := call(arg)
	if !slices.Equal(got.Queue, want.Queue) || got.Due != want.Due || got.Code != want.Code {
		t.Errorf("%s: got %+v, want %+v", what, got, want)
	}
	if !slices.Equal(arg, l) {
		t.Errorf("%s: its argument was changed from %+v to %+v", what, l, arg)
	}
	if listsShare(got.Queue, arg) {
		t.Errorf("%s: the answer shares memory with the argument", what)
	}
	// Texts of one byte are the runtime's own, whoever made them.
	for _, a := range append(slices.Clone(got.Queue), got.Due) {
		for _, b := range l {
			if len(a.Text) > 1 && shareMemory(a.Text, b.Text) {
				t.Errorf("%s: a text of the answer shares memory with the argument", what)
			}
		}
	}
}

func putDue(d impl.Due) func([]impl.Due) impl.QueueOut {
	return func(l []impl.Due) impl.QueueOut { return impl.QueuePut(l, d) }
}

func dropNode(node int64) func([]impl.Due) impl.QueueOut {
	return func(l []impl.Due) impl.QueueOut { return impl.QueueDrop(l, node) }
}

// wrongDues could stand in no queue.
func wrongDues() []impl.Due {
	return []impl.Due{
		{At: -1}, {At: lastTime + 1}, {At: math.MinInt64}, {At: math.MaxInt64},
		{Seq: -1}, {Seq: lastTime + 1}, {Seq: math.MinInt64}, {Seq: math.MaxInt64},
		{Node: -1}, {Node: 100}, {Node: math.MinInt64}, {Node: math.MaxInt64},
		{Text: strings.Repeat("x", 401)}, {Text: strings.Repeat("x", 9000)},
		{At: 3, Seq: 4, Node: 100, Text: "ab"}, {At: lastTime + 1, Seq: -1, Node: -1},
	}
}

// edgeDues could just stand in one; they rise.
func edgeDues() []impl.Due {
	return []impl.Due{
		{}, {Seq: 1, Node: 99}, {Seq: lastTime, Text: strings.Repeat("x", 400)},
		{At: 1}, {At: 1, Seq: lastTime}, {At: 2, Seq: 3, Node: 98, Text: "\x00\xff"},
		{At: lastTime, Node: 99, Text: strings.Repeat("\x00", 399)}, {At: lastTime, Seq: 1},
		{At: lastTime, Seq: lastTime, Node: 99, Text: strings.Repeat("\xff", 400)},
	}
}

// wrongQueues have no more than MaxList dues, and are not right.
func wrongQueues() map[string][]impl.Due {
	return map[string][]impl.Due{
		"one too many":       dues(impl.MaxQueue + 1),
		"MaxList":            dues(impl.MaxList),
		"zero ones, MaxList": make([]impl.Due, impl.MaxList),
		"two alike":          {{At: 1, Seq: 2}, {At: 1, Seq: 2}},
		"alike but node":     {{At: 1, Seq: 2, Node: 3}, {At: 1, Seq: 2, Node: 4}},
		"alike but text":     {{At: 1, Seq: 2, Text: "a"}, {At: 1, Seq: 2, Text: "b"}},
		"Seq falls":          {{At: 1, Seq: 2}, {At: 1, Seq: 1}},
		"At falls":           {{At: 2, Seq: 1}, {At: 1, Seq: 2}},
		"last two change":    {{At: 1}, {At: 3}, {At: 2}},
		"first two change":   {{At: 2}, {At: 1}, {At: 3}},
		"full, last At":      changedDue(impl.MaxQueue, impl.MaxQueue-1, func(d *impl.Due) { d.At = lastTime + 1 }),
		"full, last Text":    changedDue(impl.MaxQueue, impl.MaxQueue-1, func(d *impl.Due) { d.Text = strings.Repeat("x", 401) }),
		"full, first Node":   changedDue(impl.MaxQueue, 0, func(d *impl.Due) { d.Node = 100 }),
		"full, first At":     changedDue(impl.MaxQueue, 0, func(d *impl.Due) { d.At = -1 }),
		"a Seq in between":   changedDue(9, 5, func(d *impl.Due) { d.Seq = lastTime + 1 }),
		"full, twice alike":  changedDue(impl.MaxQueue, impl.MaxQueue-1, func(d *impl.Due) { d.Seq = 5 }),
	}
}

func TestQueueRight(t *testing.T) {
	right := [][]impl.Due{nil, {}, edgeDues(), dues(2), dues(impl.MaxQueue - 1), dues(impl.MaxQueue)}
	for _, d := range edgeDues() {
		right = append(right, []impl.Due{d})
	}
	for i, l := range right {
		if !impl.QueueRight(l) {
			t.Errorf("QueueRight of right queue %d, of %d dues: got false", i, len(l))
		}
	}
	for what, l := range wrongQueues() {
		if impl.QueueRight(l) {
			t.Errorf("QueueRight of %s: got true", what)
		}
	}
	for _, d := range wrongDues() {
		if impl.QueueRight([]impl.Due{d}) {
			t.Errorf("QueueRight of %.60v: got true", d)
		}
	}
	for _, l := range [][]impl.Due{dues(impl.MaxList + 1), make([]impl.Due, 5000)} {
		if impl.QueueRight(l) {
			t.Errorf("QueueRight of %d dues: got true", len(l))
		}
	}
}

func TestQueueRefused(t *testing.T) {
	refused := func(what string, l []impl.Due, code int64) {
		t.Helper()
		want := impl.QueueOut{Code: code}
		wantQueue(t, "QueuePut to "+what, l, putDue(impl.Due{At: 7}), want)
		wantQueue(t, "QueuePut of a wrong one to "+what, l, putDue(impl.Due{At: -7}), want)
		wantQueue(t, "QueueTake of "+what, l, impl.QueueTake, want)
		wantQueue(t, "QueueDrop of "+what, l, dropNode(0), want)
		if len(l) > 0 {
			wantQueue(t, "QueuePut of what is in "+what, l, putDue(l[0]), want)
		}
	}
	for what, l := range wrongQueues() {
		refused(what, l, impl.ErrForm)
	}
	for _, d := range wrongDues() {
		refused("a wrong one", []impl.Due{d}, impl.ErrForm)
	}
	refused("MaxList and one", dues(impl.MaxList+1), impl.ErrSize)
	refused("MaxList and one zero ones", make([]impl.Due, impl.MaxList+1), impl.ErrSize)
	refused("far too many", dues(3000), impl.ErrSize)
}

func TestQueuePut(t *testing.T) {
	for _, d := range edgeDues() {
		wantQueue(t, "QueuePut to none", nil, putDue(d), impl.QueueOut{Queue: []impl.Due{d}})
		wantQueue(t, "QueuePut to an empty one", []impl.Due{}, putDue(d), impl.QueueOut{Queue: []impl.Due{d}})
	}
	l := []impl.Due{{At: 2, Seq: 3, Text: "one"}, {At: 2, Seq: 5, Node: 1}, {At: 4, Seq: 1, Text: "two"}}
	for at, places := range [][]impl.Due{
		{{At: 2, Seq: 2, Text: "new"}, {At: 1, Seq: lastTime}, {}},
		{{At: 2, Seq: 4, Node: 99}},
		{{At: 2, Seq: 6}, {At: 3}, {At: 3, Seq: 9}, {At: 4}},
		{{At: 4, Seq: 2, Text: "new"}, {At: 5}, {At: lastTime, Seq: lastTime}},
	} {
		for _, d := range places {
			wantQueue(t, "QueuePut in its place", l, putDue(d), impl.QueueOut{Queue: slices.Insert(slices.Clone(l), at, d)})
		}
	}
	text := someText(20)
	got := impl.QueuePut(l, impl.Due{At: 3, Text: text})
	if len(got.Queue) != 4 || shareMemory(got.Queue[2].Text, text) {
		t.Error("QueuePut: a text of the answer shares memory with the due that was put")
	}
}

func TestQueuePutRefused(t *testing.T) {
	full := dues(impl.MaxQueue)
	for _, l := range [][]impl.Due{nil, {{}}, dues(3), full} {
		for _, d := range wrongDues() {
			wantQueue(t, "QueuePut of a wrong one", l, putDue(d), impl.QueueOut{Code: impl.ErrForm})
		}
	}
	// One that could not stand there is wrong also if one of its At and Seq is there.
	wantQueue(t, "QueuePut of a wrong one that is there", full, putDue(impl.Due{At: full[0].At, Seq: full[0].Seq, Node: 100}), impl.QueueOut{Code: impl.ErrForm})
	for _, l := range [][]impl.Due{edgeDues(), dues(1), dues(2), dues(9), full} {
		for _, d := range l {
			wantQueue(t, "QueuePut of what is there", l, putDue(d), impl.QueueOut{Code: impl.ErrThere})
			other := impl.Due{At: d.At, Seq: d.Seq, Node: d.Node ^ 1, Text: "other"}
			wantQueue(t, "QueuePut of another of one that is there", l, putDue(other), impl.QueueOut{Code: impl.ErrThere})
		}
	}
	for _, d := range []impl.Due{{}, {At: 11}, {At: full[0].At, Seq: full[0].Seq + 1}, {At: lastTime, Seq: lastTime}} {
		wantQueue(t, "QueuePut to a full one", full, putDue(d), impl.QueueOut{Code: impl.ErrFull})
	}
	last := impl.Due{At: lastTime}
	wantQueue(t, "QueuePut as the last that fits", dues(impl.MaxQueue-1), putDue(last), impl.QueueOut{Queue: append(dues(impl.MaxQueue-1), last)})
	first := impl.Due{Text: "first"}
	wantQueue(t, "QueuePut first, as the last that fits", dues(impl.MaxQueue-1), putDue(first), impl.QueueOut{Queue: append([]impl.Due{first}, dues(impl.MaxQueue-1)...)})
}

func TestQueueTake(t *testing.T) {
	wantQueue(t, "QueueTake of none", nil, impl.QueueTake, impl.QueueOut{Code: impl.ErrNone})
	wantQueue(t, "QueueTake of an empty one", []impl.Due{}, impl.QueueTake, impl.QueueOut{Code: impl.ErrNone})
	for _, d := range edgeDues() {
		wantQueue(t, "QueueTake of one", []impl.Due{d}, impl.QueueTake, impl.QueueOut{Due: d})
	}
	for _, l := range [][]impl.Due{edgeDues(), dues(2), dues(3), dues(70), dues(impl.MaxQueue)} {
		for len(l) > 0 {
			wantQueue(t, "QueueTake", l, impl.QueueTake, impl.QueueOut{Due: l[0], Queue: l[1:]})
			l = l[1:]
		}
	}
}

func TestQueueDrop(t *testing.T) {
	for _, l := range [][]impl.Due{nil, {}, edgeDues(), dues(1), dues(3), dues(50), dues(impl.MaxQueue)} {
		for _, node := range []int64{0, 1, 2, 3, 4, 5, 98, 99, 100, -1, math.MinInt64, math.MaxInt64} {
			var left []impl.Due
			for _, d := range l {
				if d.Node != node {
					left = append(left, d)
				}
			}
			wantQueue(t, "QueueDrop", l, dropNode(node), impl.QueueOut{Queue: left})
		}
	}
	same := []impl.Due{{At: 1, Node: 7, Text: "ab"}, {At: 2, Node: 7}, {At: 2, Seq: 1, Node: 7}}
	wantQueue(t, "QueueDrop of a node of which all is", same, dropNode(7), impl.QueueOut{})
	wantQueue(t, "QueueDrop of a node of which nothing is", same, dropNode(8), impl.QueueOut{Queue: same})
}

// Promise 4: whatever the order in which they were put, they are taken as they
// are due.
func TestQueueOrder(t *testing.T) {
	r := rand.New(rand.NewSource(3))
	for _, many := range []int{1, 2, 3, 10, 47, impl.MaxQueue} {
		want := dues(many)
		for range 4 {
			var l []impl.Due
			for _, i := range r.Perm(many) {
				out := impl.QueuePut(l, want[i])
				if out.Code != impl.OK || out.Due != (impl.Due{}) || !impl.QueueRight(out.Queue) {
					t.Fatalf("QueuePut of %+v to %d dues: Code %d, Due %+v", want[i], len(l), out.Code, out.Due)
				}
				l = out.Queue
			}
			for i, d := range want {
				out := impl.QueueTake(l)
				if out.Code != impl.OK || out.Due != d {
					t.Errorf("QueueTake as number %d of %d: got %+v, Code %d, want %+v", i, many, out.Due, out.Code, d)
				}
				l = out.Queue
			}
			if len(l) > 0 {
				t.Errorf("%d dues are left of %d", len(l), many)
			}
		}
	}
}
