package tests

import (
	"math/rand"
	"slices"
	"strings"
	"testing"

	"loop.example/portolan/impl"
)

// sailArgs are arguments of the functions of routes, sailing, the port, changes, sessions and what is kept, told as one.
type sailArgs struct {
	Parts   []impl.Part
	Other   []impl.Part
	Stores  [][]impl.Row
	Rows    []impl.Row
	A       []impl.Sel
	Steps   []impl.Step
	Raw     impl.Value
	Picks   []int
	Fails   []int
	Texts   []string
	Lines   []string
	Changes []impl.Change
	Kept    []impl.Entry
	Answer  impl.Answer
}

// askAllSails calls each function of these chapters.
func askAllSails(x sailArgs) {
	impl.RouteMake(x.Parts, x.A)
	impl.RouteText(x.Steps)
	impl.RouteDepth(x.Steps)
	impl.RouteParts(x.Steps)
	impl.SailReady(x.Steps, x.Picks)
	for _, s := range x.Steps {
		for i, p := range x.Parts {
			if i < len(x.Stores) {
				impl.SailStep(p, x.Stores[i], s, x.Raw, i%2 == 0)
			}
		}
	}
	impl.SailAll(x.Parts, x.Stores, x.A, x.Picks, x.Fails)
	impl.SailFetches(x.Parts, x.Stores, x.A)
	impl.PortOpen(x.Texts)
	impl.PortSession(x.Texts, x.Rows, x.Lines)
	for _, line := range x.Lines {
		impl.PortAnswer(x.Parts, x.Stores, line, x.Picks, x.Fails)
		impl.PortWhole(x.Parts, x.Rows, line)
		impl.CacheAsk(x.Kept, x.Parts, x.Stores, line)
		impl.ChangeRead(line)
		impl.AnswerRead(line)
	}
	for _, c := range x.Changes {
		impl.ChangeWrite(c)
		impl.SetParts(x.Parts, x.Stores, c)
		impl.CacheSet(x.Kept, x.Parts, x.Stores, c)
		for i, p := range x.Parts {
			if i < len(x.Stores) {
				impl.SetRow(p, x.Stores[i], c)
			}
		}
	}
	impl.SetAll(x.Parts, x.Stores, x.Changes, x.Fails)
	impl.CacheRight(x.Kept, x.Parts, x.Stores)
	impl.AnswerNone(x.Answer)
	impl.AnswerText(x.Answer)
	impl.ChartMoves(x.Parts, x.Other)
	impl.ChartSafe(x.Other, x.Parts)
}

// anySailArgs are arguments by chance that go together.
func anySailArgs(r *rand.Rand) sailArgs {
	v := anySailing(r)
	x := sailArgs{Parts: v.parts, Other: anyCrew(r), Stores: v.stores, Rows: v.rows, A: v.a, Steps: v.steps, Raw: object("")}
	for _, s := range v.steps[:r.Intn(len(v.steps)+1)] {
		x.Raw = doneByHand(v.parts[s.Part], v.stores[s.Part], s, x.Raw, r.Intn(5) == 0)
	}
	if r.Intn(5) > 0 {
		x.Raw = mended(x.Raw)
	}
	x.Picks, x.Fails, x.Texts = somePicks(r), somePlaces(r, len(v.steps)), textsOf(v.parts)
	for range 3 {
		x.Lines = append(x.Lines, anyLine(r, v))
		x.Changes = append(x.Changes, anyChange(r, v.c.All, v.rows))
		x.Kept = append(x.Kept, entry(askByHand(fitChart(r, v.c)), "x", "query.x", "u.age"))
	}
	x.Lines = append(x.Lines, x.Kept[0].Text)
	x.Answer, _ = impl.SailAll(v.parts, v.stores, v.a, nil, x.Fails)
	return x
}

// breakSailArgs changes something of arguments, that they need not be ok, or go together, any more.
func breakSailArgs(r *rand.Rand, x sailArgs) sailArgs {
	x = deep(x)
	switch r.Intn(10) {
	case 0:
		x.Parts = breakCrew(r, x.Parts)
	case 1:
		breakPart(r, &x.Parts[r.Intn(len(x.Parts))])
	case 2:
		for i := range x.Stores {
			x.Stores[i] = breakStore(r, x.Stores[i])
		}
	case 3:
		x.Stores = x.Stores[:r.Intn(len(x.Stores)+1)]
	case 4:
		x.A = breakAsk(r, x.A)
	case 5:
		for i := range x.Steps {
			x.Steps[i].Sels = breakAsk(r, x.Steps[i].Sels)
		}
	case 6:
		s := &x.Steps[r.Intn(len(x.Steps))]
		s.Type, s.Way = []string{"", "query", "u", "v", "zz"}[r.Intn(5)], []string{"n0", "pal", "x"}[:r.Intn(4)]
		s.Part, s.After, s.Brings = r.Intn(7)-2, []int{r.Intn(9) - 2}, []string{"", "x", "id", "b"}[:r.Intn(5)]
	case 7:
		x.Raw = anyValue(r, 4)
	case 8:
		x.Changes = append(x.Changes, impl.Change{}, change("u", -1, "\x00", impl.Value{Sort: 99, Kids: []impl.Value{{}}}))
		x.Kept = append(x.Kept, impl.Entry{}, x.Kept[0])
	case 9:
		x.Lines = append(x.Lines, "", "\x00", "{\xff", "set \xff 1 x 1", "picks \xff", strings.Repeat("{n", 3000))
		x.Texts = append(x.Texts, "", "\xff")
		x.Rows = breakStore(r, x.Rows)
	}
	return x
}

// Any arguments: also such as are not ok, and such as do not go together.
func TestOnceAnySail(t *testing.T) {
	r := rand.New(rand.NewSource(130))
	askAllSails(sailArgs{})
	for range 600 {
		x := anySailArgs(r)
		for range r.Intn(4) {
			x = breakSailArgs(r, x)
		}
		askAllSails(x)
		y := anySailArgs(r)
		x.Stores, x.A, x.Steps, x.Rows = y.Stores, y.A, y.Steps, y.Rows
		askAllSails(x)
	}
}

func TestOnceNothingOfSailsIsChanged(t *testing.T) {
	r := rand.New(rand.NewSource(131))
	for i := range 400 {
		x := anySailArgs(r)
		if i%3 == 0 {
			x = breakSailArgs(r, x)
		}
		wantUntouched(t, x, askAllSails)
	}
}

func TestOnceNewMemoryOfSails(t *testing.T) {
	r := rand.New(rand.NewSource(132))
	for i := range 400 {
		x := anySailArgs(r)
		if i%4 == 0 {
			x = breakSailArgs(r, x)
		}
		x = roomy(x)
		steps, _ := impl.RouteMake(x.Parts, x.A)
		wantApart(t, steps, x)
		wantApart(t, impl.RouteParts(x.Steps), x)
		wantApart(t, impl.SailReady(x.Steps, x.Picks), x)
		wantApart(t, impl.SailFetches(x.Parts, x.Stores, x.A), x)
		for j, p := range x.Parts {
			for _, s := range x.Steps {
				if j < len(x.Stores) {
					wantApart(t, impl.SailStep(p, x.Stores[j], s, x.Raw, false), x)
					wantApart(t, impl.SailStep(p, x.Stores[j], s, x.Raw, true), x)
				}
			}
		}
		a, _ := impl.SailAll(x.Parts, x.Stores, x.A, x.Picks, x.Fails)
		wantApart(t, a, x)
		parts, _ := impl.PortOpen(x.Texts)
		wantApart(t, parts, x)
		read, _ := impl.AnswerRead(impl.AnswerText(x.Answer))
		wantApart(t, read, x)
		for _, c := range x.Changes {
			wantApartSets(t, x, c)
		}
		all, codes := impl.SetAll(x.Parts, x.Stores, x.Changes, x.Fails)
		wantApart(t, struct {
			A [][]impl.Row
			B []int
		}{all, codes}, x)
		for _, line := range x.Lines {
			kept, _, _ := impl.CacheAsk(x.Kept, x.Parts, x.Stores, line)
			wantApart(t, kept, x)
		}
		wantApart(t, impl.ChartMoves(x.Parts, x.Other), x)
	}
}

func wantApartSets(t *testing.T, x sailArgs, c impl.Change) {
	t.Helper()
	stores, _ := impl.SetParts(x.Parts, x.Stores, c)
	wantApart(t, stores, x, c)
	kept, stores, _ := impl.CacheSet(x.Kept, x.Parts, x.Stores, c)
	wantApart(t, struct {
		A []impl.Entry
		B [][]impl.Row
	}{kept, stores}, x, c)
	for i, p := range x.Parts {
		if i < len(x.Stores) {
			rows, _ := impl.SetRow(p, x.Stores[i], c)
			wantApart(t, rows, x, c)
		}
	}
	read, _ := impl.ChangeRead(impl.ChangeWrite(c))
	wantApart(t, read, x, c)
}

// A change of what several know, and a cell that is asked for twice, have memory of their own for each.
func TestOnceNoTwoListsOfSails(t *testing.T) {
	parts := crew(t, "a; type query; ns [int] shared; us [u]; type u key id; id int!; xs [text] shared", "b; type query; ns [int] shared; m int; type u key id; id int!; xs [text] shared")
	rows := []impl.Row{row("query", 0, "ns,us", list(number(1)), list(number(1), number(1))), row("u", 1, "id,xs", number(1), list(text("a")))}
	stores := [][]impl.Row{impl.StoreCut(parts[0], rows), impl.StoreCut(parts[1], rows)}
	c := change("query", 0, "ns", list(number(2), number(3)))
	now, code := impl.SetParts(parts, stores, c)
	if code != 0 {
		t.Fatal(code)
	}
	wantApart(t, now, stores, c)
	both, _ := impl.SetAll(parts, stores, []impl.Change{c, c, change("u", 1, "xs", c.Value), change("u", 1, "xs", list(text("z")))}, nil)
	wantApart(t, both, stores, c)
	a, ok := impl.SailAll(parts, stores, ask(t, "{ns,x:ns,us{xs,y:xs},z:us{xs}}"), nil, nil)
	if !ok {
		t.Fatal("not sailed")
	}
	wantApart(t, a, stores)
	step := impl.Step{Type: "query", Sels: ask(t, "{ns,x:ns,us{xs,y:xs},z:us{xs}}")}
	got := impl.SailStep(parts[0], stores[0], step, object("keep", list(list())), false)
	if len(got.Names) != 5 {
		t.Fatal(got)
	}
	wantApart(t, got, stores, step)
}

func TestOnceGreatSails(t *testing.T) {
	v := sailingOf(t, exampleRows(), "{users{name,rank},n1}", eastTold, westTold)
	held := sels(sel("users"), sel("n0"))
	held[0].Kids = held
	if got := impl.RouteText([]impl.Step{{Type: "query", Sels: held}, {Part: 1}}); got != "0 part 0 query at / \n1 part 1  at / {}\n" {
		t.Errorf("%.80q", got)
	}
	if _, ok := impl.RouteMake(v.parts, held); ok {
		t.Error("fields that hold themselves have steps")
	}
	if _, ok := impl.SailAll(v.parts, v.stores, held, nil, nil); ok || len(impl.SailFetches(v.parts, v.stores, held)) > 0 {
		t.Error("fields that hold themselves are sailed")
	}
	long := sels(sel("a"))
	for range 1000000 {
		long = sels(sel("a", long...))
	}
	if got := impl.RouteText([]impl.Step{{Sels: long}}); len(got) != len("0 part 0  at / \n")+3*1000001 {
		t.Errorf("%d bytes", len(got))
	}
	wide := sels(sel("users", sel("id")))
	for range 6 {
		wide = slices.Repeat(sels(sel("users", wide...)), 3000)
	}
	for _, a := range [][]impl.Sel{held, long, wide} {
		if got := impl.SailStep(v.parts[0], v.stores[0], impl.Step{Type: "query", Sels: a}, object(""), false); !isNothing(got) {
			t.Errorf("done: %.80v", got)
		}
	}
	ranks := slices.Repeat(sels(sel("rank")), 200000)
	if got := impl.SailStep(v.parts[1], v.stores[1], impl.Step{Type: "user", Sels: ranks}, object("_id", number(1)), false); len(got.Names) != 2 {
		t.Errorf("%.80v", got)
	}
	loop := list(null())
	loop.Kids[0] = loop
	around := object("users", list(loop, null()))
	around.Kids[0].Kids[1] = around
	for _, raw := range []impl.Value{loop, around} {
		if got := impl.SailStep(v.parts[0], v.stores[0], v.steps[0], raw, false); !isNothing(got) {
			t.Error("raw holds itself, and a step is done")
		}
		if got := impl.AnswerNone(impl.Answer{Data: raw}); got != 0 {
			t.Errorf("%d nulls", got)
		}
		if got := impl.ChangeWrite(change("user", 1, "age", raw)); got != "" {
			t.Errorf("written %q", got)
		}
		if _, code := impl.SetParts(v.parts, v.stores, change("user", 1, "age", raw)); code != impl.SetUnfit {
			t.Errorf("code %d", code)
		}
	}
	nulls := null()
	for range 1000000 {
		nulls = list(nulls)
	}
	if got := impl.AnswerNone(impl.Answer{Data: nulls}); got != 1 {
		t.Errorf("%d nulls", got)
	}
	shared := list(null(), null())
	for range 20 {
		shared = list(shared, shared)
	}
	if got := impl.AnswerNone(impl.Answer{Data: shared}); got != 1<<21 {
		t.Errorf("%d nulls", got)
	}
}

func TestOnceManySails(t *testing.T) {
	v := sailingOf(t, exampleRows(), "{users{name,rank},n1}", eastTold, westTold)
	many := make([]int, 1000000)
	steps := make([]impl.Step, len(many))
	for i := range many {
		many[i] = i + 1
		if i > 0 {
			steps[i].After = []int{i - 1}
		}
	}
	if got := impl.SailReady(steps, many); !slices.Equal(got, []int{0}) {
		t.Errorf("%d ready", len(got))
	}
	if got := impl.RouteDepth(steps); got != len(steps) {
		t.Errorf("depth %d", got)
	}
	if got := impl.RouteParts(steps); !slices.Equal(got, []int{0}) {
		t.Errorf("%d parts", len(got))
	}
	if got := v.sail(t, many, many); !strings.HasSuffix(got, `"wrong":[{"way":["users","0","rank"],"code":3},{"way":["users","1","rank"],"code":3},{"way":["n1"],"code":3}]}`) {
		t.Error(got)
	}
	_, codes := impl.SetAll(v.parts, v.stores, slices.Repeat([]impl.Change{change("user", 1, "age", number(1))}, 100000), many)
	if len(codes) != 100000 || codes[0] != 0 || codes[99999] != impl.SetFailed {
		t.Errorf("%d codes", len(codes))
	}
	kept := slices.Repeat([]impl.Entry{entry("x", "y", "user.age")}, 200000)
	if got, _, hit := impl.CacheAsk(kept, v.parts, v.stores, "{n0}"); hit || len(got) != impl.CacheMax {
		t.Errorf("%d kept", len(got))
	}
	if got, _, _ := impl.CacheSet(kept, v.parts, v.stores, change("user", 1, "age", number(1))); len(got) != 0 {
		t.Errorf("%d kept", len(got))
	}
	if got := impl.PortSession(exampleTexts(t), exampleRows(), make([]string, 100000)); got != strings.Repeat("what\n", 100000) {
		t.Errorf("%d bytes", len(got))
	}
	long := strings.Repeat("9", 1000000)
	if got := impl.PortSession(exampleTexts(t), exampleRows(), []string{"picks " + long, "fails " + long, "set user " + long + " age 1", "set user 1 age " + long, "{" + long, "{n0}"}); got != "what\nwhat\nrefused 4\n{\"data\":{\"n0\":1}}\n" {
		t.Errorf("%.200q", got)
	}
	if _, ok := impl.AnswerRead(strings.Repeat("[", 1000000)); ok {
		t.Error("read")
	}
	if _, code := impl.PortOpen(make([]string, 1000000)); code != impl.PortPart {
		t.Errorf("code %d", code)
	}
	texts := slices.Repeat(exampleTexts(t)[:1], 5000)
	if got, code := impl.PortOpen(texts); code != impl.PortChart || len(got) != 0 {
		t.Errorf("code %d", code)
	}
	if _, code := impl.PortOpen(append(texts, "x")); code != impl.PortPart {
		t.Errorf("code %d", code)
	}
	// Entries that looked at the same in memory, together at more than memory has.
	shared := slices.Repeat([]impl.Entry{{Text: "x", Answer: "y", Uses: slices.Repeat([]string{"user.age"}, 1000000)}}, 100000)
	if got, answer, hit := impl.CacheAsk(shared, v.parts, v.stores, "x"); !hit || answer != "y" || len(got) != 0 {
		t.Errorf("%d kept, %q, %v", len(got), answer, hit)
	}
	if got, answer, hit := impl.CacheAsk(shared, v.parts, v.stores, "{n0}"); hit || answer != `{"data":{"n0":1}}` || len(got) != impl.CacheMax || len(got[0].Uses) != 1000000 {
		t.Errorf("%d kept, %q, %v", len(got), answer, hit)
	}
}

// What is done to an answer is not seen in the next one.
func TestOnceNothingOfSailsIsKept(t *testing.T) {
	v := sailingOf(t, exampleRows(), "{users{name,rank},n1}", eastTold, westTold)
	want := v.sail(t, nil, nil)
	steps, _ := impl.RouteMake(v.parts, v.a)
	steps[0].Sels[0].Kids[0].Name, steps[1].Way[0], steps[1].After[0], steps[1].Brings[0] = "zz", "zz", 7, "zz"
	a, _ := impl.SailAll(v.parts, v.stores, v.a, nil, []int{1})
	a.Data.Kids[0].Kids[0].Names[0], a.Wrongs[0].Way[0] = "zz", "zz"
	now, _ := impl.SetParts(v.parts, v.stores, change("user", 1, "age", number(1)))
	now[0][1].Cells[2].Value = number(9)
	c, _, _ := impl.CacheAsk(nil, v.parts, v.stores, "{n0}")
	c[0].Answer, c[0].Uses[0] = "zz", "zz"
	impl.SailFetches(v.parts, v.stores, v.a)[0].Ids[0] = 7
	impl.PortSession(exampleTexts(t), exampleRows(), []string{"set user 1 age 1", "picks 1", "fails 1"})
	wantRoute(t, v.parts, v.a)
	if got := v.sail(t, nil, nil); got != want {
		t.Errorf("now it is %s", got)
	}
	if _, answer, hit := impl.CacheAsk(nil, v.parts, v.stores, "{n0}"); hit || answer != `{"data":{"n0":1}}` {
		t.Errorf("now it is %s, %v", answer, hit)
	}
	wantSession(t, "anew", exampleTexts(t), exampleRows(), []string{"{users{rank},n1}"}, `{"data":{"users":[{"rank":35},{"rank":null}],"n1":2}}`)
}

// The empty list and the nil list are the same value.
func TestOnceEmptyListsOfSails(t *testing.T) {
	v := sailingOf(t, exampleRows(), "{users{name,rank},n1}", eastTold, westTold)
	a := deep(v.a)
	a[1].Kids, a[0].Kids[0].Kids = []impl.Sel{}, []impl.Sel{}
	steps, ok := impl.RouteMake(v.parts, a)
	if !ok || !same(steps, v.steps) {
		t.Errorf("%v", steps)
	}
	empty := func(s impl.Step) impl.Step {
		if len(s.After) == 0 {
			s.After = []int{}
		}
		if len(s.Brings) == 0 {
			s.Brings = []string{}
		}
		if len(s.Way) == 0 {
			s.Way = []string{}
		}
		return s
	}
	raw := impl.Value{Sort: impl.JsonObj, Names: []string{}, Kids: []impl.Value{}}
	for i, s := range v.steps {
		one := impl.SailStep(v.parts[s.Part], v.stores[s.Part], s, object(""), false)
		if two := impl.SailStep(v.parts[s.Part], v.stores[s.Part], empty(s), raw, false); !same(one, two) {
			t.Errorf("%v, and %v", one, two)
		}
		if impl.RouteText([]impl.Step{s}) != impl.RouteText([]impl.Step{empty(s)}) || i == 0 && len(impl.SailReady([]impl.Step{empty(s)}, []int{})) != 1 {
			t.Errorf("%v", s)
		}
	}
	if v.sail(t, []int{}, []int{}) != v.sail(t, nil, nil) {
		t.Error("no picks")
	}
	c := impl.Change{Type: "user", Id: 1, Field: "age", Value: impl.Value{Sort: impl.JsonInt, Num: 4, Names: []string{}, Kids: []impl.Value{}}}
	if impl.ChangeWrite(c) != "user 1 age 4" {
		t.Error(impl.ChangeWrite(c))
	}
	if _, code := impl.SetParts(v.parts, v.stores, c); code != 0 {
		t.Error(code)
	}
	if parts, code := impl.PortOpen([]string{}); code != impl.PortChart || len(parts) != 0 {
		t.Error(code)
	}
	if !impl.CacheRight([]impl.Entry{}, nil, nil) || impl.RouteText([]impl.Step{}) != "" || impl.RouteDepth([]impl.Step{}) != 0 {
		t.Error("empty lists")
	}
	answer := impl.Answer{Data: raw, Wrongs: []impl.Wrong{}}
	if impl.AnswerText(answer) != `{"data":{}}` || impl.AnswerNone(answer) != 0 {
		t.Error(impl.AnswerText(answer))
	}
}
