package tests

import (
	"cmp"
	"fmt"
	"math/rand"
	"regexp"
	"slices"
	"strconv"
	"strings"

	"loop.example/g00678/impl"
)

// kindRule is what the chapter says of the Items of a kind: their word, how many
// of At, A and B are written, and the bounds of these.
type kindRule struct {
	word   string
	nums   int
	atMost int64
	aLeast int64
	aMost  int64
	bMost  int64
}

// kindRules has the kinds from 1 to 9 at their places.
var kindRules = []kindRule{
	{},
	{"crash", 2, 2000, 1, 6, 0},
	{"start", 2, 2000, 1, 6, 0},
	{"cut", 2, 2000, 1, 63, 0},
	{"heal", 1, 2000, 0, 0, 0},
	{"loss", 2, 2000, 0, 100, 0},
	{"delay", 2, 2000, 0, 9, 0},
	{"leave", 2, 2000, 1, 6, 0},
	{"loop", 3, 2000, 0, 9, 500},
	{"end", 0, 0, 0, 0, 0},
}

func item(kind int64, at int64, a int64, b int64) impl.Item {
	return impl.Item{Kind: kind, At: at, A: a, B: b}
}

func crash(at int64, node int64) impl.Item { return item(impl.PnCrash, at, node, 0) }
func heal(at int64) impl.Item              { return item(impl.PnHeal, at, 0, 0) }
func loop(at int64, often int64, again int64) impl.Item {
	return item(impl.PnLoop, at, often, again)
}

// end is the end of a loop.
var end = impl.Item{Kind: impl.PnEnd}

// inLoops puts so many loops around some Items.
func inLoops(many int, l ...impl.Item) []impl.Item {
	return slices.Concat(slices.Repeat([]impl.Item{loop(1, 1, 1)}, many), l, slices.Repeat([]impl.Item{end}, many))
}

// heals are many, at 0 and on.
func heals(many int) []impl.Item {
	var l []impl.Item
	for i := range many {
		l = append(l, heal(int64(i)))
	}
	return l
}

func itemByRule(x impl.Item) bool {
	if !between(x.Kind, 1, 9) {
		return false
	}
	rule := kindRules[x.Kind]
	return between(x.At, 0, rule.atMost) && between(x.A, rule.aLeast, rule.aMost) && between(x.B, 0, rule.bMost)
}

// partByRule is a plan as a tree: an Item, and what is in it, if it is a loop.
type partByRule struct {
	item impl.Item
	in   []partByRule
}

// partsByRule takes parts up to an end that is not one of them, and tells what is
// behind; it tells no, if a loop lacks its end or is too deep.
func partsByRule(l []impl.Item, deep int) (parts []partByRule, behind []impl.Item, right bool) {
	for len(l) > 0 && l[0].Kind != impl.PnEnd {
		part := partByRule{item: l[0]}
		l = l[1:]
		if part.item.Kind == impl.PnLoop {
			part.in, l, right = partsByRule(l, deep+1)
			if !right || len(l) == 0 || deep == 3 {
				return nil, nil, false
			}
			l = l[1:]
		}
		parts = append(parts, part)
	}
	return parts, l, true
}

// planByRule is the whole plan as a tree, if it is a right one.
func planByRule(l []impl.Item) ([]partByRule, bool) {
	parts, behind, right := partsByRule(l, 0)
	right = right && len(behind) == 0 && len(l) <= 40
	for _, x := range l {
		right = right && itemByRule(x)
	}
	return parts, right
}

func linesByRule(parts []partByRule, ahead string) string {
	text := ""
	for _, p := range parts {
		rule := kindRules[p.item.Kind]
		text += ahead + rule.word
		for _, n := range []int64{p.item.At, p.item.A, p.item.B}[:rule.nums] {
			text += fmt.Sprintf(" %d", n)
		}
		text += "\n"
		if p.item.Kind == impl.PnLoop {
			text += linesByRule(p.in, ahead+"  ") + ahead + "end\n"
		}
	}
	return text
}

// textByRule is the text of a right plan.
func textByRule(l []impl.Item) string {
	parts, _ := planByRule(l)
	return linesByRule(parts, "")
}

// faultsByRule are all Faults, however many, in the order in which they come.
func faultsByRule(parts []partByRule, added int64) []impl.Item {
	var faults []impl.Item
	for _, p := range parts {
		if p.item.Kind != impl.PnLoop {
			faults = append(faults, item(p.item.Kind, p.item.At+added, p.item.A, p.item.B))
			continue
		}
		for done := int64(0); done < p.item.A; done++ {
			faults = append(faults, faultsByRule(p.in, added+p.item.At+p.item.B*done)...)
		}
	}
	return faults
}

// unrolledByRule is what is wanted of Unroll.
func unrolledByRule(l []impl.Item) impl.PlanOut {
	parts, right := planByRule(l)
	if len(l) > 400 {
		return impl.PlanOut{Code: impl.ErrSize}
	}
	if !right {
		return impl.PlanOut{Code: impl.ErrForm}
	}
	faults := faultsByRule(parts, 0)
	if len(faults) > 60 || slices.ContainsFunc(faults, func(x impl.Item) bool { return x.At > lastTime-1000 }) {
		return impl.PlanOut{Code: impl.ErrFull}
	}
	slices.SortStableFunc(faults, func(a, b impl.Item) int { return cmp.Compare(a.At, b.At) })
	return impl.PlanOut{Faults: faults}
}

var lineForm = regexp.MustCompile(`^((?:  )*)([a-z]+)((?: (?:0|[1-9][0-9]*))*)\n$`)

// lineByRule is the Item of a line, and how many loops it stands in.
func lineByRule(line string) (x impl.Item, deep int, right bool) {
	m := lineForm.FindStringSubmatch(line)
	if m == nil {
		return impl.Item{}, 0, false
	}
	kind := slices.IndexFunc(kindRules, func(r kindRule) bool { return r.word == m[2] })
	words := strings.Fields(m[3])
	if kind < 1 || len(words) != kindRules[kind].nums {
		return impl.Item{}, 0, false
	}
	var nums [3]int64
	for i, word := range words {
		n, err := strconv.ParseInt(word, 10, 64)
		if err != nil {
			return impl.Item{}, 0, false
		}
		nums[i] = n
	}
	x = item(int64(kind), nums[0], nums[1], nums[2])
	return x, len(m[1]) / 2, itemByRule(x)
}

// readByRule is what is wanted of PlanRead.
func readByRule(text string) impl.PlanOut {
	if len(text) > 8000 {
		return impl.PlanOut{Code: impl.ErrSize}
	}
	var plan []impl.Item
	loops := 0
	lines := strings.SplitAfter(text, "\n")
	if lines[len(lines)-1] == "" {
		lines = lines[:len(lines)-1]
	}
	for i, line := range lines {
		x, deep, right := lineByRule(line)
		if x.Kind == impl.PnEnd {
			loops--
		}
		if !right || deep != loops || i >= 40 || x.Kind == impl.PnLoop && loops == 3 {
			return impl.PlanOut{Line: int64(i), Code: impl.ErrSyntax}
		}
		if x.Kind == impl.PnLoop {
			loops++
		}
		plan = append(plan, x)
	}
	if loops > 0 {
		return impl.PlanOut{Line: int64(len(lines)), Code: impl.ErrSyntax}
	}
	return impl.PlanOut{Plan: plan}
}

// someOf is a number between two, often one of these.
func someOf(r *rand.Rand, least int64, most int64) int64 {
	switch r.Intn(4) {
	case 0:
		return least
	case 1:
		return most
	}
	return least + r.Int63n(most-least+1)
}

// someItem is a right one of a kind; the At of a tame one is often that of others.
func someItem(r *rand.Rand, kind int64, tame bool) impl.Item {
	rule := kindRules[kind]
	x := item(kind, someOf(r, 0, rule.atMost), someOf(r, rule.aLeast, rule.aMost), someOf(r, 0, rule.bMost))
	if tame {
		x.At = min(x.At, r.Int63n(6))
		x.B = min(x.B, r.Int63n(6))
	}
	if tame && kind == impl.PnLoop {
		x.A = r.Int63n(4)
	}
	return x
}

// someParts are up to room right Items; a loop takes two of these, and what is in it.
func someParts(r *rand.Rand, room int, deep int, tame bool) []impl.Item {
	var l []impl.Item
	for len(l) < room {
		left := room - len(l)
		if deep < 3 && left > 1 && r.Intn(4) == 0 {
			l = append(l, someItem(r, impl.PnLoop, tame))
			l = append(l, someParts(r, r.Intn(left-1), deep+1, tame)...)
			l = append(l, end)
			continue
		}
		l = append(l, someItem(r, 1+r.Int63n(7), tame))
	}
	return l
}

// somePlan is a right plan, which is of the most Items that there may be as often
// as of some other number.
func somePlan(r *rand.Rand, tame bool) []impl.Item {
	return someParts(r, min(r.Intn(80), 40), 0, tame)
}

// roomyItems has room behind the Items, in which a writer beyond their end is seen.
func roomyItems(l []impl.Item) []impl.Item {
	room := make([]impl.Item, len(l)+4)
	for i := copy(room, l); i < len(room); i++ {
		room[i] = item(-9, int64(i), -9, -9)
	}
	return room[:len(l)]
}
