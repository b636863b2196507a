package tests

import (
	"math"
	"math/rand"
	"slices"
	"strconv"
	"strings"
	"testing"

	"loop.example/g00678/impl"
)

func samePlanOut(a impl.PlanOut, b impl.PlanOut) bool {
	return slices.Equal(a.Plan, b.Plan) && slices.Equal(a.Faults, b.Faults) && a.Line == b.Line && a.Code == b.Code
}

// wantPlan holds what is told of a list of Items against the rules, and looks that
// the list and what stands behind it are as they were, and share no memory with it.
func wantPlan(t *testing.T, what string, l []impl.Item) {
	t.Helper()
	arg := roomyItems(l)
	was := slices.Clone(arg[:cap(arg)])
	_, right := planByRule(l)
	if got := impl.PlanRight(arg); got != right {
		t.Errorf("%s: PlanRight of %.600v: got %v", what, l, got)
	}
	text := ""
	if right {
		text = textByRule(l)
	}
	if got := impl.PlanText(arg); got != text {
		t.Errorf("%s: PlanText of %.600v: got %q, want %q", what, l, got, text)
	}
	got, want := impl.Unroll(arg), unrolledByRule(l)
	if !samePlanOut(got, want) {
		t.Errorf("%s: Unroll of %.600v: got %+v, want %+v", what, l, got, want)
	}
	if !slices.Equal(arg[:cap(arg)], was) {
		t.Errorf("%s: %.600v was changed to %.600v", what, was, arg[:cap(arg)])
	}
	if allShare(arg, got.Plan, got.Faults, impl.Unroll(arg).Faults) {
		t.Errorf("%s: Unroll of %.600v: memory is shared", what, l)
	}
}

// wantRead holds what is read of a text against what is wanted.
func wantRead(t *testing.T, what string, text string, want impl.PlanOut) {
	t.Helper()
	got := impl.PlanRead(text)
	if !samePlanOut(got, want) {
		t.Errorf("%s: PlanRead of %d bytes %.900q: got %+v, want %+v", what, len(text), text, got, want)
	}
	if allShare(got.Plan, got.Faults, impl.PlanRead(text).Plan) {
		t.Errorf("%s: PlanRead of %.900q: memory is shared", what, text)
	}
}

func wantWrongLine(t *testing.T, what string, text string, line int64) {
	t.Helper()
	wantRead(t, what, text, impl.PlanOut{Line: line, Code: impl.ErrSyntax})
}

// aroundAll are numbers at, and one below and above, all bounds that an Item has,
// and some that are none's, also where they are cut to fewer bits.
var aroundAll = []int64{
	math.MinInt64, -1<<32 + 1, -2000, -1, 0, 1, 2, 5, 6, 7, 8, 9, 10, 62, 63, 64, 99, 100, 101,
	255, 256, 257, 499, 500, 501, 1999, 2000, 2001, 1<<16 + 1, 1 << 32, 1<<32 + 1, math.MaxInt64 - 1, math.MaxInt64,
}

func TestPlanConstants(t *testing.T) {
	got := []int64{impl.PnCrash, impl.PnStart, impl.PnCut, impl.PnHeal, impl.PnLoss, impl.PnDelay, impl.PnLeave, impl.PnLoop, impl.PnEnd, impl.MaxPlan, impl.MaxFaults}
	if want := []int64{1, 2, 3, 4, 5, 6, 7, 8, 9, 40, 60}; !slices.Equal(got, want) {
		t.Errorf("the kinds, MaxPlan and MaxFaults: got %v, want %v", got, want)
	}
}

// The bounds of each kind, written out one by one.
func TestItemRightWritten(t *testing.T) {
	for _, c := range []struct {
		kind     int64
		at, a, b []int64
	}{
		{impl.PnCrash, []int64{0, 1, 1999, 2000}, []int64{1, 2, 5, 6}, []int64{0}},
		{impl.PnStart, []int64{0, 1, 1999, 2000}, []int64{1, 2, 5, 6}, []int64{0}},
		{impl.PnCut, []int64{0, 1, 1999, 2000}, []int64{1, 2, 62, 63}, []int64{0}},
		{impl.PnHeal, []int64{0, 1, 1999, 2000}, []int64{0}, []int64{0}},
		{impl.PnLoss, []int64{0, 1, 1999, 2000}, []int64{0, 1, 99, 100}, []int64{0}},
		{impl.PnDelay, []int64{0, 1, 1999, 2000}, []int64{0, 1, 8, 9}, []int64{0}},
		{impl.PnLeave, []int64{0, 1, 1999, 2000}, []int64{1, 2, 5, 6}, []int64{0}},
		{impl.PnLoop, []int64{0, 1, 1999, 2000}, []int64{0, 1, 8, 9}, []int64{0, 1, 499, 500}},
		{impl.PnEnd, []int64{0}, []int64{0}, []int64{0}},
	} {
		try := func(x impl.Item, want bool) {
			t.Helper()
			if got := impl.ItemRight(x); got != want {
				t.Errorf("ItemRight of %+v: got %v", x, got)
			}
		}
		for _, at := range c.at {
			for _, a := range c.a {
				for _, b := range c.b {
					try(item(c.kind, at, a, b), true)
				}
			}
		}
		one := item(c.kind, c.at[0], c.a[0], c.b[0])
		for _, x := range []impl.Item{
			item(c.kind, c.at[0]-1, one.A, one.B), item(c.kind, c.at[len(c.at)-1]+1, one.A, one.B),
			item(c.kind, one.At, c.a[0]-1, one.B), item(c.kind, one.At, c.a[len(c.a)-1]+1, one.B),
			item(c.kind, one.At, one.A, c.b[0]-1), item(c.kind, one.At, one.A, c.b[len(c.b)-1]+1),
		} {
			try(x, false)
		}
	}
}

func TestItemRight(t *testing.T) {
	kinds := append(rising(12, -1, 1), math.MinInt64, 256, 257, 265, 1<<32+1, 1<<32+9, math.MaxInt64)
	for _, kind := range kinds {
		for _, at := range aroundAll {
			for _, a := range aroundAll {
				for _, b := range aroundAll {
					x := item(kind, at, a, b)
					if got, want := impl.ItemRight(x), itemByRule(x); got != want {
						t.Errorf("ItemRight of %+v: got %v", x, got)
					}
				}
			}
		}
	}
}

// edgePlans are right ones at the edges that the chapter names.
func edgePlans() map[string][]impl.Item {
	l := map[string][]impl.Item{
		"none":                           nil,
		"an empty list":                  {},
		"MaxPlan Items":                  heals(40),
		"MaxPlan Items, in a loop":       inLoops(1, heals(38)...),
		"MaxPlan Items, three deep":      inLoops(3, heals(34)...),
		"MaxPlan Items, all empty loops": slices.Repeat(inLoops(1), 20),
		"a loop with nothing in it":      inLoops(1),
		"two deep, nothing in it":        inLoops(2),
		"three deep, nothing in it":      inLoops(3),
		"three deep":                     inLoops(3, crash(1, 1)),
		"three deep, again and again":    slices.Repeat(inLoops(3, heal(1)), 5),
		"three deep, twice in a loop":    inLoops(1, slices.Concat(inLoops(2, heal(1)), inLoops(2, heal(2)))...),
		"a loop done 0 times":            {loop(1, 0, 5), crash(1, 1), end, heal(3)},
		"a loop done 0 times in a loop":  {loop(1, 2, 5), loop(1, 0, 5), crash(1, 1), end, heal(3), end},
		"a loop done 0 times around one": {loop(1, 0, 5), loop(1, 9, 5), crash(1, 1), end, heal(3), end},
		"Items ahead, between, behind":   {heal(1), loop(1, 1, 1), heal(2), loop(1, 1, 1), heal(3), end, heal(4), end, heal(5)},
		"a loop at its bounds":           {loop(2000, 9, 500), heal(2000), end},
	}
	for kind := int64(1); kind <= 7; kind++ {
		rule := kindRules[kind]
		for _, at := range []int64{0, 2000} {
			for _, a := range []int64{rule.aLeast, rule.aMost} {
				what := rule.word + " " + strconv.FormatInt(at, 10) + " " + strconv.FormatInt(a, 10)
				l[what] = []impl.Item{item(kind, at, a, 0)}
				l[what+" in a loop"] = inLoops(1, item(kind, at, a, 0))
			}
		}
	}
	return l
}

// wrongPlans are of at most MaxList Items.
func wrongPlans() map[string][]impl.Item {
	l := map[string][]impl.Item{
		"one more than MaxPlan":            heals(41),
		"one more than MaxPlan, in a loop": inLoops(1, heals(39)...),
		"MaxList Items":                    heals(400),
		"four deep":                        inLoops(4, heal(1)),
		"four deep, nothing in it":         inLoops(4),
		"four deep, behind three":          slices.Concat(inLoops(3), inLoops(4)),
		"four deep, behind one in three":   inLoops(3, slices.Concat([]impl.Item{heal(1)}, inLoops(1))...),
		"an end without a loop":            {end},
		"an end ahead of a loop":           {end, loop(1, 1, 1)},
		"an end too many":                  {loop(1, 1, 1), end, end},
		"an end too many, then a loop":     {loop(1, 1, 1), end, end, loop(1, 1, 1)},
		"a loop without its end":           {loop(1, 1, 1)},
		"a loop without its end, filled":   {loop(1, 1, 1), heal(1)},
		"a loop without its end, last":     {heal(1), loop(1, 1, 1)},
		"two loops with one end":           {loop(1, 1, 1), loop(1, 1, 1), end},
		"a loop without its end, of 0":     {loop(1, 0, 1), heal(1)},
		"the zero one":                     {{}},
	}
	for _, wrong := range []impl.Item{
		{}, item(0, 1, 1, 0), item(10, 1, 1, 0), item(-1, 0, 0, 0), crash(-1, 1), crash(2001, 1), crash(1, 0), crash(1, 7),
		item(impl.PnCrash, 1, 1, 1), item(impl.PnHeal, 1, 1, 0), item(impl.PnCut, 1, 64, 0), item(impl.PnLoss, 1, 101, 0), item(impl.PnDelay, 1, 10, 0),
	} {
		what := strconv.FormatInt(int64(len(l)), 10) + " a wrong Item "
		l[what+"alone"] = []impl.Item{wrong}
		l[what+"first"] = []impl.Item{wrong, heal(1), heal(2)}
		l[what+"between"] = []impl.Item{heal(1), wrong, heal(2)}
		l[what+"last"] = []impl.Item{heal(1), heal(2), wrong}
		l[what+"in a loop"] = inLoops(1, wrong)
		l[what+"in a loop done 0 times"] = []impl.Item{loop(1, 0, 1), wrong, end}
	}
	for _, wrong := range []impl.Item{loop(-1, 1, 1), loop(2001, 1, 1), loop(1, -1, 1), loop(1, 10, 1), loop(1, 1, -1), loop(1, 1, 501)} {
		l[strconv.FormatInt(int64(len(l)), 10)+" a wrong loop"] = []impl.Item{wrong, heal(1), end}
	}
	for _, wrong := range []impl.Item{item(impl.PnEnd, 1, 0, 0), item(impl.PnEnd, 0, 1, 0), item(impl.PnEnd, 0, 0, 1), item(impl.PnEnd, -1, 0, 0)} {
		l[strconv.FormatInt(int64(len(l)), 10)+" a wrong end"] = []impl.Item{loop(1, 1, 1), heal(1), wrong}
	}
	return l
}

// longPlans have more than MaxList Items.
func longPlans() map[string][]impl.Item {
	return map[string][]impl.Item{
		"one more than MaxList":            heals(401),
		"one more than MaxList, zero ones": make([]impl.Item, 401),
		"far too many":                     make([]impl.Item, 5000),
	}
}

func TestPlans(t *testing.T) {
	for what, l := range edgePlans() {
		if !impl.PlanRight(l) {
			t.Errorf("PlanRight of %s: got false", what)
		}
		wantPlan(t, what, l)
	}
	for what, l := range wrongPlans() {
		if got := impl.Unroll(l); impl.PlanRight(l) || impl.PlanText(l) != "" || !samePlanOut(got, impl.PlanOut{Code: impl.ErrForm}) {
			t.Errorf("%s: PlanRight %v, PlanText %q, Unroll %+v", what, impl.PlanRight(l), impl.PlanText(l), got)
		}
		wantPlan(t, what, l)
	}
	// Too long is looked for ahead of all else.
	for what, l := range longPlans() {
		if got := impl.Unroll(l); impl.PlanRight(l) || impl.PlanText(l) != "" || !samePlanOut(got, impl.PlanOut{Code: impl.ErrSize}) {
			t.Errorf("%s: PlanRight %v, PlanText %q, Unroll %+v", what, impl.PlanRight(l), impl.PlanText(l), got)
		}
		wantPlan(t, what, l)
	}
}

// eachShape calls for all rows of up to most Items that are loops, ends and others.
func eachShape(most int, call func([]impl.Item)) {
	var more func(l []impl.Item)
	more = func(l []impl.Item) {
		call(l)
		if len(l) == most {
			return
		}
		for _, x := range []impl.Item{loop(int64(len(l)), 2, 3), end, crash(int64(len(l)), 1)} {
			more(append(slices.Clone(l), x))
		}
	}
	more(nil)
}

func TestPlansOfEachShape(t *testing.T) {
	rights := 0
	eachShape(9, func(l []impl.Item) {
		wantPlan(t, "a shape", l)
		if impl.PlanRight(l) {
			rights++
			wantRead(t, "a shape", textByRule(l), impl.PlanOut{Plan: l})
		}
	})
	if rights < 1000 {
		t.Errorf("%d shapes were right: too few to tell", rights)
	}
}

func TestPlansByChance(t *testing.T) {
	r := rand.New(rand.NewSource(9))
	for i := range 4000 {
		l := somePlan(r, i%2 == 0)
		wantPlan(t, "some plan", l)
		if len(l) == 0 {
			continue
		}
		// One thing of it is another one then, which may make it wrong.
		at, num := r.Intn(len(l)), aroundAll[r.Intn(len(aroundAll))]
		switch r.Intn(5) {
		case 0:
			l[at].Kind = r.Int63n(12) - 1
		case 1:
			l[at].At = num
		case 2:
			l[at].A = num
		case 3:
			l[at].B = num
		case 4:
			l = slices.Delete(l, at, at+1)
		}
		wantPlan(t, "some changed plan", l)
	}
}

// The line of each kind, and how deep it stands, written out.
func TestPlanTextWritten(t *testing.T) {
	for _, c := range []struct {
		l    []impl.Item
		text string
	}{
		{nil, ""},
		{[]impl.Item{crash(0, 1)}, "crash 0 1\n"},
		{[]impl.Item{item(impl.PnStart, 2000, 6, 0)}, "start 2000 6\n"},
		{[]impl.Item{item(impl.PnCut, 10, 63, 0)}, "cut 10 63\n"},
		{[]impl.Item{heal(5)}, "heal 5\n"},
		{[]impl.Item{heal(0)}, "heal 0\n"},
		{[]impl.Item{item(impl.PnLoss, 7, 0, 0)}, "loss 7 0\n"},
		{[]impl.Item{item(impl.PnLoss, 100, 100, 0)}, "loss 100 100\n"},
		{[]impl.Item{item(impl.PnDelay, 9, 9, 0)}, "delay 9 9\n"},
		{[]impl.Item{item(impl.PnLeave, 1000, 2, 0)}, "leave 1000 2\n"},
		{[]impl.Item{loop(0, 0, 0), end}, "loop 0 0 0\nend\n"},
		{[]impl.Item{loop(2000, 9, 500), end}, "loop 2000 9 500\nend\n"},
		{
			[]impl.Item{heal(1), loop(2, 3, 40), crash(5, 6), loop(7, 8, 9), loop(1, 1, 1), end, heal(3), end, loop(4, 0, 6), heal(8), end, end, heal(9)},
			"heal 1\nloop 2 3 40\n  crash 5 6\n  loop 7 8 9\n    loop 1 1 1\n    end\n    heal 3\n  end\n  loop 4 0 6\n    heal 8\n  end\nend\nheal 9\n",
		},
		{inLoops(3, heal(2)), "loop 1 1 1\n  loop 1 1 1\n    loop 1 1 1\n      heal 2\n    end\n  end\nend\n"},
	} {
		if got := impl.PlanText(c.l); got != c.text {
			t.Errorf("PlanText of %+v: got %q, want %q", c.l, got, c.text)
		}
		wantRead(t, "written", c.text, impl.PlanOut{Plan: c.l})
	}
}

// Promise 11, of texts: a right plan comes back.
func TestPlanComesBack(t *testing.T) {
	for what, l := range edgePlans() {
		wantRead(t, what, impl.PlanText(l), impl.PlanOut{Plan: l})
	}
	r := rand.New(rand.NewSource(91))
	for i := range 4000 {
		l := somePlan(r, i%2 == 0)
		wantRead(t, "some plan", impl.PlanText(l), impl.PlanOut{Plan: l})
	}
}

// wrongLines can stand nowhere, however deep; each has its line feed.
var wrongLines = []string{
	"\n", " \n", "  \n", "\r\n", "\x00\n",
	"heal  5\n", "heal 5 \n", " heal 5\n", "heal 5\r\n", "heal\t5\n", "\theal 5\n", "heal\u00a05\n", "heal5\n",
	"crash  5 1\n", "crash 5  1\n", "crash 5 1 \n", "crash 51\n", "crash5 1\n", " crash 5 1\n", "   crash 5 1\n",
	"loop 1  2 3\n", "loop 1 2  3\n", "loop 1 2 3 \n", "loop  1 2 3\n",
	"end \n", " end\n", "end 0\n", "end 0 0\n", "end 0 0 0\n", "end end\n",
	"heal 05\n", "heal 00\n", "crash 01 1\n", "crash 1 01\n", "loop 01 1 1\n", "loop 1 01 1\n", "loop 1 1 01\n", "loop 1 1 00\n", "loss 1 000\n",
	"heal +5\n", "heal -5\n", "heal -0\n", "heal +0\n", "crash +5 1\n", "crash 5 +1\n", "crash 5 -1\n", "loop 1 1 +1\n", "loop 1 1 -0\n",
	"heal 2001\n", "crash 2001 1\n", "loop 2001 1 1\n", "loss 1 101\n", "delay 1 10\n", "cut 1 64\n", "cut 1 0\n", "leave 1 7\n", "leave 1 0\n", "start 1 7\n", "start 1 0\n", "crash 1 7\n", "crash 1 0\n",
	"loop 1 10 1\n", "loop 1 1 501\n",
	"heal 9223372036854775807\n", "heal 9223372036854775808\n", "heal 18446744073709551616\n", "heal 18446744073709551621\n", "heal 99999999999999999999999999999999\n",
	"crash 1 18446744073709551617\n", "loop 1 1 18446744073709551617\n", "loss 1 18446744073709551616\n", "loss 1 99999999999999999999\n", "heal 4294967296\n", "crash 1 4294967297\n",
	"heal\n", "heal \n", "heal 5 0\n", "heal 5 0 0\n", "crash\n", "crash 5\n", "crash 1 1 0\n", "loss 5\n", "delay 5\n", "loop\n", "loop 1\n", "loop 1 1\n", "loop 1 1 1 1\n", "loop 1 1 1 0\n",
	"heal x\n", "heal 5x\n", "heal 0x5\n", "heal 1_0\n", "heal 5.0\n", "heal 1e1\n", "loss 1 x\n", "loss x 1\n", "delay 1 -\n", "loop 1 1 x\n", "heal \u0665\n", "crash 1 \uff11\n",
	"fall 5\n", "crush 5 1\n", "Heal 5\n", "HEAL 5\n", "heals 5\n", "hea 5\n", "heal5 5\n", "x\n", "5\n", "5 heal\n", "1 5 1\n", "0\n", "ends\n", "en\n", "End\n", "# heal 5\n", "heal 5 # x\n", "heal 5;\n", "\ufeffheal 5\n", "\xff\n", "heal 5\vheal 6\n", "heal 5\rheal 6\n", "heal 5\u2028heal 6\n",
}

func TestPlanReadWrongLines(t *testing.T) {
	deeps := []string{"", "loop 1 1 1\n", "loop 1 1 1\n  loop 1 1 1\n", "loop 1 1 1\n  loop 1 1 1\n    loop 1 1 1\n"}
	for _, line := range wrongLines {
		for deep, ahead := range deeps {
			wantWrongLine(t, "a wrong line", ahead+strings.Repeat("  ", deep)+line, int64(deep))
			wantWrongLine(t, "a wrong line ahead of others", ahead+strings.Repeat("  ", deep)+line+"heal 1\n", int64(deep))
			wantWrongLine(t, "a wrong line behind others", "heal 1\n"+ahead+strings.Repeat("  ", deep)+line, int64(deep)+1)
		}
		wantWrongLine(t, "the last one of the lines that may be", strings.Repeat("heal 1\n", 39)+line, 39)
	}
}

// What is wrong in a text, written out one by one, with the Line that is told.
func TestPlanReadFaults(t *testing.T) {
	most := strings.Repeat("heal 1\n", 40)
	for _, c := range []struct {
		what string
		text string
		line int64
	}{
		{"a last line without its line feed", "heal 5", 0},
		{"a second line without its line feed", "heal 5\nheal 6", 1},
		{"an end without its line feed", "loop 1 1 1\nend", 1},
		{"a loop without its line feed", "loop 1 1 1", 0},
		{"a last line that is a blank", "heal 5\n ", 1},
		{"an empty line alone", "\n", 0},
		{"an empty line first", "\nheal 5\n", 0},
		{"an empty line between", "heal 5\n\nheal 6\n", 1},
		{"an empty line last", "heal 5\n\n", 1},
		{"an empty line in a loop", "loop 1 1 1\n\nend\n", 1},
		{"a line that is deep without a loop", "  heal 5\n", 0},
		{"a line that is not deep in a loop", "loop 1 1 1\nheal 5\nend\n", 1},
		{"a line that is too deep in a loop", "loop 1 1 1\n    heal 5\nend\n", 1},
		{"one blank too few ahead", "loop 1 1 1\n heal 5\nend\n", 1},
		{"one blank too many ahead", "loop 1 1 1\n   heal 5\nend\n", 1},
		{"an end as deep as what is in its loop", "loop 1 1 1\n  heal 5\n  end\n", 2},
		{"an end of a deep loop that is not deep", "loop 1 1 1\n  loop 1 1 1\nend\n", 2},
		{"an end that is one blank deep", "loop 1 1 1\n end\n", 1},
		{"a line that is deep behind a loop", "loop 1 1 1\nend\n  heal 5\n", 2},
		{"a loop that is not deep in a loop", "loop 1 1 1\nloop 1 1 1\n", 1},
		{"a tab for two blanks", "loop 1 1 1\n\theal 5\nend\n", 1},
		{"an end without a loop", "end\n", 0},
		{"an end without a loop, deep", "  end\n", 0},
		{"an end without a loop behind a line", "heal 5\nend\n", 1},
		{"an end too many", "loop 1 1 1\nend\nend\n", 2},
		{"a loop too deep", "loop 1 1 1\n  loop 1 1 1\n    loop 1 1 1\n      loop 1 1 1\n      end\n    end\n  end\nend\n", 3},
		{"a loop too deep behind an inner one", "loop 1 1 1\n  loop 1 1 1\n    loop 1 1 1\n    end\n    loop 1 1 1\n      loop 1 1 1\n", 5},
		{"the 41st line", most + "heal 1\n", 40},
		{"the 41st line, and more", most + most, 40},
		{"the 41st line without its line feed", most + "heal 1", 40},
		{"the 41st line, empty", most + "\n", 40},
		{"the 41st line, a blank alone", most + " ", 40},
		{"the 41st line, an end without a loop", most + "end\n", 40},
		{"the 41st line, an end", "loop 1 1 1\n" + strings.Repeat("  heal 1\n", 39) + "end\n", 40},
		{"the 40th line is open, then no end", "loop 1 1 1\n" + strings.Repeat("  heal 1\n", 39), 40},
		{"the 40th line is a loop", strings.Repeat("heal 1\n", 39) + "loop 1 1 1\n", 40},
		{"the first of two wrong lines", "heal 1\nheal\nheal 3\nheal\n", 1},
		{"the first of two wrong lines, of unlike faults", "loop 1 1 1\nend\nend\ncrash 1 9\n", 2},
		{"a wrong line ahead of the 41st", "heal\n" + most, 0},
		{"a wrong line and a loop without its end", "loop 1 1 1\n  heal\n", 1},
		{"a wrong line and one without its line feed", "heal\nheal 5", 0},
		{"a loop without its end", "loop 1 1 1\n", 1},
		{"a loop without its end behind lines", "heal 1\nheal 2\nloop 1 1 1\n", 3},
		{"a loop without its end, filled", "loop 1 1 1\n  heal 1\n  heal 2\n", 3},
		{"two loops without their ends", "loop 1 1 1\n  loop 1 1 1\n", 2},
		{"two loops with one end", "loop 1 1 1\n  loop 1 1 1\n  end\n", 3},
		{"a loop without its end behind one with it", "loop 1 1 1\nend\nloop 1 1 1\n", 3},
	} {
		wantWrongLine(t, c.what, c.text, c.line)
		wantRead(t, c.what+", by the rule", c.text, readByRule(c.text))
	}
	wantRead(t, "no text", "", impl.PlanOut{})
	wantRead(t, "as many lines as may be", most, impl.PlanOut{Plan: slices.Repeat([]impl.Item{heal(1)}, 40)})
}

func TestPlanReadLong(t *testing.T) {
	for what, text := range map[string]string{
		"blanks":           strings.Repeat(" ", 8001),
		"lines":            strings.Repeat("heal 1\n", 1143),
		"empty lines":      strings.Repeat("\n", 8001),
		"a right one last": strings.Repeat(" ", 8000) + "heal 1\n",
		"a right one":      "heal 1\n" + strings.Repeat(" ", 8000),
		"far too long":     strings.Repeat("heal 1\n", 100000),
	} {
		wantRead(t, what, text, impl.PlanOut{Code: impl.ErrSize})
	}
	wantWrongLine(t, "MaxBytes blanks", strings.Repeat(" ", 8000), 0)
	wantWrongLine(t, "MaxBytes line feeds", strings.Repeat("\n", 8000), 0)
	wantWrongLine(t, "MaxBytes of lines", strings.Repeat("heal 10\n", 1000), 40)
	wantWrongLine(t, "MaxBytes in the second line", "heal 1\n"+strings.Repeat("9", 7993), 1)
	wantWrongLine(t, "a long number", "heal 1"+strings.Repeat("0", 7000)+"\n", 0)
	wantWrongLine(t, "many words", strings.Repeat("heal 1 ", 1000)+"\n", 0)
}

// turned is a text of which some lines or bytes are others than they were.
func turned(r *rand.Rand, text string) string {
	const bytes = "   \n\n0123459-+x\r\tlendhap\x00\xff"
	lines := strings.SplitAfter(text, "\n")
	at := r.Intn(len(lines))
	switch r.Intn(7) {
	case 0:
		return strings.Join(slices.Delete(lines, at, at+1), "")
	case 1:
		return strings.Join(slices.Insert(lines, at, lines[r.Intn(len(lines))]), "")
	case 2:
		lines[at] = "  " + lines[at]
		return strings.Join(lines, "")
	case 3:
		lines[at] = strings.TrimPrefix(lines[at], "  ")
		return strings.Join(lines, "")
	}
	if text == "" {
		return string(bytes[r.Intn(len(bytes))])
	}
	place, b := r.Intn(len(text)), string(bytes[r.Intn(len(bytes))])
	switch r.Intn(3) {
	case 0:
		return text[:place] + b + text[place:]
	case 1:
		return text[:place] + text[place+1:]
	}
	return text[:place] + b + text[place+1:]
}

// What is read of texts that are turned here and there; each that is taken is the
// one text of its plan.
func TestPlanReadTurned(t *testing.T) {
	r := rand.New(rand.NewSource(92))
	taken := 0
	for i := range 30000 {
		text := impl.PlanText(someParts(r, r.Intn(8)+i%2*r.Intn(34), 0, i%3 == 0))
		for range 1 + r.Intn(3) {
			text = turned(r, text)
		}
		wantRead(t, "a turned text", text, readByRule(text))
		if got := impl.PlanRead(text); got.Code == impl.OK {
			taken++
			if again := impl.PlanText(got.Plan); !impl.PlanRight(got.Plan) || again != text {
				t.Errorf("PlanRead took %q as %+v, which is %q", text, got.Plan, again)
			}
		}
	}
	if taken < 1000 || taken > 29000 {
		t.Errorf("%d of 30000 were taken: too few or too many to tell", taken)
	}
}

// Each byte of a text is turned to each other one.
func TestPlanReadEachByteTurned(t *testing.T) {
	text := "loop 1 2 10\n  crash 5 1\n  heal 12\nend\nloss 0 30\n"
	for at := range len(text) {
		for b := range 256 {
			turn := text[:at] + string([]byte{byte(b)}) + text[at+1:]
			wantRead(t, "one byte turned", turn, readByRule(turn))
		}
		wantRead(t, "cut", text[:at], readByRule(text[:at]))
		wantRead(t, "begun later", text[at:], readByRule(text[at:]))
	}
}

// What is unrolled, written out one by one.
func TestUnrollWritten(t *testing.T) {
	for _, c := range []struct {
		what string
		l    []impl.Item
		want []impl.Item
	}{
		{"none", nil, nil},
		{"one of each kind", []impl.Item{
			crash(1, 1), item(impl.PnStart, 2, 2, 0), item(impl.PnCut, 3, 3, 0), heal(4), item(impl.PnLoss, 5, 5, 0), item(impl.PnDelay, 6, 6, 0), item(impl.PnLeave, 7, 6, 0),
		}, []impl.Item{
			crash(1, 1), item(impl.PnStart, 2, 2, 0), item(impl.PnCut, 3, 3, 0), heal(4), item(impl.PnLoss, 5, 5, 0), item(impl.PnDelay, 6, 6, 0), item(impl.PnLeave, 7, 6, 0),
		}},
		{"not in order", []impl.Item{heal(9), heal(2), heal(5)}, []impl.Item{heal(2), heal(5), heal(9)}},
		{"several at one At", []impl.Item{crash(5, 3), crash(2, 6), crash(5, 1), heal(5), crash(2, 4), crash(5, 2)}, []impl.Item{crash(2, 6), crash(2, 4), crash(5, 3), crash(5, 1), heal(5), crash(5, 2)}},
		{"a loop with nothing in it", []impl.Item{loop(1, 9, 1), end}, nil},
		{"a loop done 0 times", []impl.Item{loop(1, 0, 1), heal(1), end}, nil},
		{"a loop done 0 times among others", []impl.Item{heal(8), loop(1, 0, 1), heal(1), loop(1, 9, 1), heal(1), end, end, heal(7)}, []impl.Item{heal(7), heal(8)}},
		{"a loop done once", []impl.Item{loop(10, 1, 500), heal(1), end}, []impl.Item{heal(11)}},
		{"a loop", []impl.Item{loop(10, 3, 100), heal(1), crash(5, 2), end}, []impl.Item{heal(11), crash(15, 2), heal(111), crash(115, 2), heal(211), crash(215, 2)}},
		{"a loop again after 0", []impl.Item{loop(10, 2, 0), heal(1), crash(1, 2), end}, []impl.Item{heal(11), crash(11, 2), heal(11), crash(11, 2)}},
		{"a loop, its Items out of order", []impl.Item{loop(0, 2, 3), heal(4), crash(0, 1), end}, []impl.Item{crash(0, 1), crash(3, 1), heal(4), heal(7)}},
		{"a loop whose times meet", []impl.Item{loop(0, 3, 2), crash(4, 1), crash(0, 2), end}, []impl.Item{crash(0, 2), crash(2, 2), crash(4, 1), crash(4, 2), crash(6, 1), crash(8, 1)}},
		{"ahead of and behind a loop", []impl.Item{crash(7, 1), loop(5, 2, 0), crash(2, 2), end, crash(7, 3), crash(0, 4)}, []impl.Item{crash(0, 4), crash(7, 1), crash(7, 2), crash(7, 2), crash(7, 3)}},
		{"two loops", []impl.Item{loop(1, 2, 10), heal(0), end, loop(2, 2, 10), crash(0, 1), end}, []impl.Item{heal(1), crash(2, 1), heal(11), crash(12, 1)}},
		{"a loop in a loop", []impl.Item{loop(1, 2, 10), loop(2, 2, 100), crash(5, 1), end, heal(3), end}, []impl.Item{heal(4), crash(8, 1), heal(14), crash(18, 1), crash(108, 1), crash(118, 1)}},
		{"three in each other", []impl.Item{loop(1000, 2, 1), loop(100, 2, 10), loop(10, 2, 100), heal(1), end, end, end}, []impl.Item{heal(1111), heal(1112), heal(1121), heal(1122), heal(1211), heal(1212), heal(1221), heal(1222)}},
	} {
		if got := impl.Unroll(c.l); !samePlanOut(got, impl.PlanOut{Faults: c.want}) {
			t.Errorf("%s: Unroll of %+v: got %+v, want %+v", c.what, c.l, got, c.want)
		}
		wantPlan(t, c.what, c.l)
	}
}

// How many may be unrolled, and how late.
func TestUnrollLimits(t *testing.T) {
	for _, c := range []struct {
		what  string
		l     []impl.Item
		many  int
		first int64
		last  int64
	}{
		{"MaxFaults", slices.Concat([]impl.Item{loop(0, 9, 10)}, heals(6), []impl.Item{end}, heals(6)), 60, 0, 85},
		{"MaxFaults, ahead of the loop", slices.Concat(heals(6), []impl.Item{loop(0, 9, 10)}, heals(6), []impl.Item{end}), 60, 0, 85},
		{"MaxFaults, in loops in loops", []impl.Item{loop(0, 3, 1), loop(0, 4, 10), loop(0, 5, 100), heal(7), end, end, end}, 60, 7, 439},
		{"MaxFaults, and some that are not done", slices.Concat([]impl.Item{loop(0, 5, 10)}, heals(12), []impl.Item{end, loop(0, 0, 0), heal(1), end, loop(0, 9, 1), end}), 60, 0, 51},
		{"many loops with nothing in them", []impl.Item{loop(0, 9, 1), loop(0, 9, 1), loop(0, 9, 1), end, end, end, heal(1)}, 1, 1, 1},
		{"as late as may be", []impl.Item{loop(2000, 9, 500), loop(2000, 6, 500), loop(2000, 1, 500), heal(2000), end, end, end}, 54, 8000, 14500},
		{"one loop, as late as may be", []impl.Item{loop(2000, 9, 500), heal(2000), end}, 9, 4000, 8000},
	} {
		got := impl.Unroll(c.l)
		if got.Code != impl.OK || len(got.Faults) != c.many || got.Faults[0].At != c.first || got.Faults[c.many-1].At != c.last {
			t.Errorf("%s: Unroll of %+v: got %+v", c.what, c.l, got)
		}
		wantPlan(t, c.what, c.l)
	}
	for what, l := range map[string][]impl.Item{
		"one more than MaxFaults":                     slices.Concat([]impl.Item{loop(0, 9, 10)}, heals(6), []impl.Item{end}, heals(7)),
		"one more than MaxFaults, ahead of the loop":  slices.Concat(heals(7), []impl.Item{loop(0, 9, 10)}, heals(6), []impl.Item{end}),
		"one more, in a loop":                         slices.Concat([]impl.Item{loop(0, 5, 10)}, heals(12), []impl.Item{end, loop(0, 1, 1), heal(1), end}),
		"one more, in loops in loops":                 {loop(0, 3, 1), loop(0, 4, 10), loop(0, 5, 100), heal(7), end, end, end, heal(0)},
		"far too many":                                slices.Concat([]impl.Item{loop(0, 9, 1), loop(0, 9, 1), loop(0, 9, 1)}, heals(34), []impl.Item{end, end, end}),
		"too many, by one that is in three loops":     {loop(2000, 9, 500), loop(2000, 9, 500), loop(2000, 9, 500), heal(2000), end, end, end},
		"too many, though the next loop is done once": slices.Concat([]impl.Item{loop(0, 9, 1)}, heals(7), []impl.Item{end, loop(0, 1, 1), end}),
	} {
		if got := impl.Unroll(l); !samePlanOut(got, impl.PlanOut{Code: impl.ErrFull}) {
			t.Errorf("%s: Unroll of %+v: got %+v", what, l, got)
		}
		wantPlan(t, what, l)
	}
}

// Promise 11, of what is unrolled: it rises in time, and each can befall somebody.
func TestUnrolledRises(t *testing.T) {
	r := rand.New(rand.NewSource(93))
	done := 0
	for i := range 6000 {
		got := impl.Unroll(someParts(r, r.Intn(20), 0, i%3 != 0))
		if got.Code == impl.OK && len(got.Faults) > 10 {
			done++
		}
		for i, x := range got.Faults {
			if i > 0 && got.Faults[i-1].At > x.At {
				t.Errorf("what is unrolled falls at %d: %+v", i, got.Faults)
			}
			if x.Kind < impl.PnCrash || x.Kind > impl.PnLeave {
				t.Errorf("what is unrolled has %+v", x)
			}
		}
	}
	if done < 500 {
		t.Errorf("%d were unrolled to more than ten: too few to tell", done)
	}
}

// What is told once stays, whatever is done to what is told then.
func TestPlanAnswersAreNewMemory(t *testing.T) {
	l := []impl.Item{loop(1, 2, 10), crash(5, 1), end}
	text := impl.PlanText(l)
	first, second := impl.PlanRead(text), impl.PlanRead(text)
	faults, others := impl.Unroll(l), impl.Unroll(l)
	for i := range first.Plan {
		first.Plan[i] = impl.Item{}
	}
	for i := range faults.Faults {
		faults.Faults[i] = impl.Item{}
	}
	if !slices.Equal(second.Plan, l) || !slices.Equal(impl.PlanRead(text).Plan, l) {
		t.Errorf("PlanRead: an answer was changed with another one: %+v", second.Plan)
	}
	want := []impl.Item{crash(6, 1), crash(16, 1)}
	if !slices.Equal(others.Faults, want) || !slices.Equal(impl.Unroll(l).Faults, want) {
		t.Errorf("Unroll: an answer was changed with another one: %+v", others.Faults)
	}
	l[1] = heal(3)
	if !slices.Equal(others.Faults, want) || text != "loop 1 2 10\n  crash 5 1\nend\n" {
		t.Errorf("an answer was changed with the plan: %+v, %q", others.Faults, text)
	}
}
