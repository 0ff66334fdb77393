package tests

import (
	"math/rand"
	"runtime"
	"slices"
	"strings"
	"testing"
	"time"

	"loop.example/portolan/impl"
)

// exampleRows are the rows of the document's example.
func exampleRows() []impl.Row {
	return []impl.Row{
		row("query", 0, "n0,users,n1", number(1), list(number(1), number(2)), number(2)),
		row("user", 1, "id,name,age,rank", number(1), text("ann"), number(30), number(5)),
		row("user", 2, "id,name,age,rank", number(2), text("bob"), null(), number(7)),
	}
}

// sailingOf is parts, what each has of rows, and an ask.
func sailingOf(t *testing.T, rows []impl.Row, line string, told ...string) sailing {
	t.Helper()
	v := sailing{parts: crew(t, told...), a: ask(t, line)}
	v.c, _ = impl.ChartMake(v.parts)
	v.rows = impl.StoreCut(v.c.All, rows)
	for _, p := range v.parts {
		v.stores = append(v.stores, impl.StoreCut(p, rows))
	}
	v.steps, _ = wantRoute(t, v.parts, v.a)
	return v
}

func TestSailReady(t *testing.T) {
	steps := []impl.Step{{}, {After: []int{0}}, {}, {After: []int{1, 2}}, {After: []int{0, 0}}}
	for _, c := range []struct {
		done, want []int
	}{
		{nil, []int{0, 2}},
		{[]int{0}, []int{1, 2, 4}},
		{[]int{2}, []int{0}},
		{[]int{2, 1}, []int{0, 3}},
		{[]int{4, 0, 2, 0}, []int{1}},
		{[]int{0, 1, 2, 3}, []int{4}},
		{[]int{4, 3, 2, 1, 0}, nil},
		{[]int{-1, 7, 99}, []int{0, 2}},
	} {
		if got := impl.SailReady(steps, c.done); !slices.Equal(got, c.want) {
			t.Errorf("%v: %v, want %v", c.done, got, c.want)
		}
	}
	// Made by hand: behind itself, behind what is no step, behind each other.
	odd := []impl.Step{{After: []int{0}}, {After: []int{-1}}, {After: []int{9}}, {After: []int{4}}, {After: []int{3}}}
	if got := impl.SailReady(odd, nil); len(got) != 0 {
		t.Errorf("ready: %v", got)
	}
	if got := impl.SailReady(odd, []int{-1, 9, 3}); !slices.Equal(got, []int{1, 2, 4}) {
		t.Errorf("ready: %v", got)
	}
	if got := impl.SailReady(nil, []int{0}); len(got) != 0 {
		t.Errorf("ready of none: %v", got)
	}
}

// P37: SailReady tells steps that are not done, and whose After are; none just if all are done.
func TestP37(t *testing.T) {
	r := rand.New(rand.NewSource(70))
	for range 1500 {
		parts, _, a := anyRoute(r)
		steps, _ := impl.RouteMake(parts, a)
		var done []int
		for {
			ready := impl.SailReady(steps, done)
			if !slices.Equal(ready, readyByHand(steps, done)) || !slices.IsSorted(ready) {
				t.Fatalf("ready %v, done %v", ready, done)
			}
			for _, place := range ready {
				for _, ahead := range steps[place].After {
					if !slices.Contains(done, ahead) {
						t.Fatalf("%d is ready, %v is done", place, done)
					}
				}
			}
			if (len(ready) == 0) != (len(done) == len(steps)) {
				t.Fatalf("ready %v, done %v", ready, done)
			}
			if len(ready) == 0 {
				break
			}
			done = append(done, ready[r.Intn(len(ready))])
		}
	}
}

// stepArgs are arguments of SailStep.
type stepArgs struct {
	P     impl.Part
	Rows  []impl.Row
	S     impl.Step
	Raw   impl.Value
	Fails bool
}

func (x stepArgs) do() impl.Value { return impl.SailStep(x.P, x.Rows, x.S, x.Raw, x.Fails) }

// wantStep fails if a step is done otherwise than by hand, and than told.
func wantStep(t *testing.T, what string, x stepArgs, want impl.Value) {
	t.Helper()
	got := x.do()
	if !same(got, want) {
		t.Errorf("%s: %v, want %v", what, got, want)
	}
	if isNothing(want) {
		return
	}
	if hand := doneByHand(x.P, x.Rows, x.S, x.Raw, x.Fails); !same(hand, want) {
		t.Errorf("%s: by hand it is %v", what, hand)
	}
}

func TestSailStep(t *testing.T) {
	parts := crew(t, eastTold, "west; type query; n1 int; type user key id; id int!; age int far; rank int needs age; extra int; sum int needs age extra; pal user; tags [text]; pals [user]")
	rows := []impl.Row{
		row("query", 0, "n1", number(2)),
		row("user", 1, "id,rank,extra,sum,pal,tags,pals", number(1), number(5), number(10), number(100), number(2), list(text("x"), null()), list(number(1), null(), number(9))),
		row("user", 2, "id,rank,extra,sum,pal,tags,pals", number(2), number(999999), bad(), null(), number(9), null(), bad()),
	}
	user := func(id impl.Value, age impl.Value) impl.Value { return object("_id,_age", id, age) }
	for _, c := range []struct {
		what  string
		s     impl.Step
		raw   impl.Value
		fails bool
		want  impl.Value
	}{
		{"brought", impl.Step{Type: "user", Way: []string{"u"}, Sels: sels(sel("rank")), Brings: []string{"age"}}, object("u", user(number(1), number(30))), false, object("u", object("_id,_age,rank", number(1), number(30), number(35)))},
		{"brought null", impl.Step{Type: "user", Sels: sels(sel("rank")), Brings: []string{"age"}}, user(number(1), null()), false, object("_id,_age,rank", number(1), null(), null())},
		{"brought bad", impl.Step{Type: "user", Sels: sels(sel("rank")), Brings: []string{"age"}}, user(number(1), badBy(3)), false, impl.Value{}},
		{"brought bad otherwise", impl.Step{Type: "user", Sels: sels(sel("rank")), Brings: []string{"age"}}, user(number(1), badBy(1)), false, impl.Value{}},
		{"brought something else", impl.Step{Type: "user", Sels: sels(sel("rank")), Brings: []string{"age"}}, user(number(1), text("30")), false, object("_id,_age,rank", number(1), text("30"), null())},
		{"not there, though it is brought", impl.Step{Type: "user", Sels: sels(sel("rank")), Brings: []string{"age"}}, object("_id", number(1)), false, object("_id,rank", number(1), null())},
		{"not brought, and Far", impl.Step{Type: "user", Sels: sels(sel("rank"))}, user(number(1), number(30)), false, object("_id,_age,rank", number(1), number(30), null())},
		{"too great", impl.Step{Type: "user", Sels: sels(sel("rank")), Brings: []string{"age"}}, user(number(2), number(1)), false, object("_id,_age,rank", number(2), number(1), badBy(1))},
		{"just not too great", impl.Step{Type: "user", Sels: sels(sel("rank")), Brings: []string{"age"}}, user(number(2), number(0)), false, object("_id,_age,rank", number(2), number(0), number(999999))},
		{"one is brought, the other its own", impl.Step{Type: "user", Sels: sels(sel("sum")), Brings: []string{"age"}}, object("_id,_age,_extra", number(1), number(1), number(7)), false, object("_id,_age,_extra,sum", number(1), number(1), number(7), number(111))},
		{"both are brought", impl.Step{Type: "user", Sels: sels(sel("sum")), Brings: []string{"age", "extra"}}, object("_id,_age,_extra", number(1), number(1), number(7)), false, object("_id,_age,_extra,sum", number(1), number(1), number(7), number(108))},
		{"bad by what is done ahead", impl.Step{Type: "user", Sels: sels(sel("_extra:extra"), sel("sum")), Brings: []string{"age", "extra"}}, user(number(2), number(1)), false, object("_id,_age,_extra,sum", number(2), number(1), badBy(1), badBy(1))},
		{"what is done behind does not stand there yet", impl.Step{Type: "user", Sels: sels(sel("sum"), sel("_extra:extra")), Brings: []string{"age", "extra"}}, user(number(1), number(1)), false, object("_id,_age,sum,_extra", number(1), number(1), null(), number(10))},
		{"twice under one name", impl.Step{Type: "user", Sels: sels(sel("x:extra"), sel("y:id"), sel("x:rank"), sel("x:id"))}, object("_id", number(1)), false, object("_id,x,y", number(1), number(1), number(1))},
		{"twice, and needed between", impl.Step{Type: "user", Sels: sels(sel("_age:extra"), sel("rank"), sel("_age:id"), sel("sum")), Brings: []string{"age"}}, object("_id", number(1)), false, object("_id,_age,rank,sum", number(1), number(1), number(15), number(111))},
		{"twice, and needed behind itself", impl.Step{Type: "user", Sels: sels(sel("_age:extra"), sel("_age:rank"), sel("_age:rank")), Brings: []string{"age"}}, object("_id", number(1)), false, object("_id,_age", number(1), number(20))},
		{"a thing is needed", impl.Step{Type: "user", Sels: sels(sel("_age:pal", sel("id")), sel("rank"), sel("_age:extra"), sel("r:rank")), Brings: []string{"age"}}, user(number(1), number(30)), false, object("_id,_age,rank,r", number(1), number(10), null(), number(15))},
		{"bad things are needed", impl.Step{Type: "user", Sels: sels(sel("_age:pals", sel("id")), sel("rank"), sel("_age:id")), Brings: []string{"age"}}, user(number(2), number(30)), false, object("_id,_age,rank", number(2), number(2), badBy(1))},
		{"things twice under one name", impl.Step{Type: "user", Sels: sels(sel("x:pals", sel("id")), sel("pal", sel("id"), sel("id"), sel("y:tags")), sel("x:pal", sel("extra")))}, object("_id", number(1)), false, object("_id,x,pal", number(1), object("extra", badBy(1)), object("id,y", number(2), null()))},
		{"bad though another is null", impl.Step{Type: "user", Sels: sels(sel("sum")), Brings: []string{"age"}}, user(number(2), null()), false, object("_id,_age,sum", number(2), null(), badBy(1))},
		{"brought, but itself asked for", impl.Step{Type: "user", Sels: sels(sel("extra")), Brings: []string{"extra"}}, object("_id,_extra", number(1), number(7)), false, object("_id,_extra,extra", number(1), number(7), number(10))},
		{"what is done ahead stands there", impl.Step{Type: "user", Sels: sels(sel("_extra:extra"), sel("sum")), Brings: []string{"age", "extra"}}, user(number(1), number(1)), false, object("_id,_age,_extra,sum", number(1), number(1), number(10), number(111))},
		{"fails", impl.Step{Type: "user", Sels: sels(sel("rank"), sel("p:pal", sel("id")))}, user(number(1), number(30)), true, object("_id,_age,rank,p", number(1), number(30), badBy(3), badBy(3))},
		{"no such row", impl.Step{Type: "user", Sels: sels(sel("rank"))}, user(number(3), number(30)), false, object("_id,_age,rank", number(3), number(30), badBy(3))},
		{"below 0", impl.Step{Type: "user", Sels: sels(sel("rank"))}, object("_id", number(-1)), false, object("_id,rank", number(-1), badBy(3))},
		{"no number", impl.Step{Type: "user", Sels: sels(sel("rank"))}, object("x", number(1)), false, object("x", number(1))},
		{"no number, and fails", impl.Step{Type: "user", Sels: sels(sel("rank"))}, object("x", number(1)), true, object("x", number(1))},
		{"null for a number", impl.Step{Type: "user", Sels: sels(sel("rank"))}, object("_id", null()), true, object("_id", null())},
		{"a text for a number", impl.Step{Type: "user", Sels: sels(sel("rank"))}, object("_id", text("1")), false, object("_id", text("1"))},
		{"a truth for a number", impl.Step{Type: "user", Sels: sels(sel("rank"))}, object("_id", truth(true)), false, object("_id", truth(true))},
		{"bad for a number", impl.Step{Type: "user", Sels: sels(sel("rank"))}, object("_id", badBy(3)), false, impl.Value{}},
		{"query needs no number", impl.Step{Type: "query", Sels: sels(sel("n1"))}, object("_id", text("x")), false, object("_id,n1", text("x"), number(2))},
		{"query fails", impl.Step{Type: "query", Sels: sels(sel("n1"), sel("m:n1"))}, object(""), true, object("n1,m", badBy(3), badBy(3))},
		{"of several things", impl.Step{Type: "user", Way: []string{"a", "b"}, Sels: sels(sel("extra"))}, object("a", list(object("b", user(number(1), null())), null(), object("c", number(1)), object("b", list(user(number(2), null()), list(object("_id", number(7)))))) /* lists within lists are gone through, too */), false, object("a", list(object("b", object("_id,_age,extra", number(1), null(), number(10))), null(), object("c", number(1)), object("b", list(object("_id,_age,extra", number(2), null(), badBy(1)), list(object("_id,extra", number(7), badBy(3)))))))},
		{"a list is outermost", impl.Step{Type: "query", Sels: sels(sel("n1"))}, list(object(""), number(1), object("n1", null())), false, list(object("n1", number(2)), number(1), object("n1", number(2)))},
		{"no thing along the way", impl.Step{Type: "user", Way: []string{"zz"}, Sels: sels(sel("rank"))}, object("_id", number(1)), true, object("_id", number(1))},
		{"a bad thing along the way", impl.Step{Type: "user", Way: []string{"u"}, Sels: sels(sel("rank"))}, object("u", badBy(3)), false, impl.Value{}},
		{"a place is no name of a way", impl.Step{Type: "user", Way: []string{"u", "0"}, Sels: sels(sel("rank"))}, object("u", list(user(number(1), null()))), false, object("u", list(user(number(1), null())))},
		{"no thing at all", impl.Step{Type: "user", Sels: sels(sel("rank"))}, number(1), true, number(1)},
		{"nothing is asked for", impl.Step{Type: "user"}, user(number(1), null()), true, user(number(1), null())},
		{"it stands there already", impl.Step{Type: "user", Sels: sels(sel("age:extra"), sel("_id:extra"))}, object("age,_id,z", text("old"), number(1), null()), false, object("age,_id,z", number(10), number(10), null())},
		{"things of a type", impl.Step{Type: "user", Sels: sels(sel("pals", sel("id"), sel("x:extra")), sel("pal", sel("pal", sel("id")), sel("tags")))}, object("_id", number(1)), false, object("_id,pals,pal", number(1), list(object("id,x", number(1), number(10)), null(), null()), object("pal,tags", null(), null()))},
		{"lists of words, bad lists", impl.Step{Type: "user", Way: []string{"u"}, Sels: sels(sel("tags"), sel("pals", sel("id")))}, object("u", list(object("_id", number(1)), object("_id", number(2)))), false, object("u", list(object("_id,tags,pals", number(1), list(text("x"), null()), list(object("id", number(1)), null(), null())), object("_id,tags,pals", number(2), null(), badBy(1))))},
		{"one by hand", impl.Step{Type: "user", Sels: sels(one("pal", 1, sel("extra")), one("pals", 2, sel("id")), one("y:extra", 4))}, object("_id", number(1)), false, object("_id,pal,pals,y", number(1), object("extra", number(10)), object("id", number(2)), number(4))},
		{"needs within a thing are its own", impl.Step{Type: "user", Sels: sels(sel("pal", sel("sum")))}, object("_id", number(1)), false, object("_id,pal", number(1), object("sum", badBy(1)))},
	} {
		wantStep(t, c.what, stepArgs{parts[1], rows, c.s, c.raw, c.fails}, c.want)
		// Of which part a step is, and behind which ones, does not matter for what is known.
		c.s.Part, c.s.After = 7, []int{3, -1}
		wantStep(t, c.what+", of another part", stepArgs{parts[1], rows, c.s, c.raw, c.fails}, c.want)
	}
}

// deepSels is a chain of so many levels of `pal`, with a field at its end.
func deepSels(levels int) []impl.Sel {
	if levels == 1 {
		return sels(sel("id"))
	}
	return sels(sel("pal", deepSels(levels-1)...))
}

// levels is a value of so many levels.
func levels(n int) impl.Value {
	v := number(1)
	for range n - 1 {
		v = list(v)
	}
	return v
}

func TestSailStepRefuses(t *testing.T) {
	p := crew(t, "a; type query; n int; u user; afar int far; type user key id; id int!; pal user; x int far; type other; y int")[0]
	rows := []impl.Row{row("query", 0, "n,u", number(1), number(1)), row("user", 1, "id,pal", number(1), number(1))}
	fine := stepArgs{P: p, Rows: rows, S: impl.Step{Type: "query", Sels: sels(sel("n"))}, Raw: object("")}
	wantStep(t, "fine", fine, object("n", number(1)))
	broken := deep(p)
	broken.Name = "int"
	held := sels(sel("pal"), sel("id"))
	held[0].Kids = held
	wide := object("")
	wide.Names, wide.Kids = []string{"a"}, []impl.Value{list(slices.Repeat([]impl.Value{null()}, 598)...)}
	wider := deep(wide)
	wider.Kids[0].Kids = append(wider.Kids[0].Kids, null())
	for _, c := range []struct {
		what   string
		change func(x *stepArgs)
		ok     bool
	}{
		{"a part that is not ok", func(x *stepArgs) { x.P = broken }, false},
		{"no part", func(x *stepArgs) { x.P = impl.Part{} }, false},
		{"no rows", func(x *stepArgs) { x.Rows = nil }, false},
		{"rows of another part", func(x *stepArgs) { x.Rows = rows[1:] }, false},
		{"a cell too many", func(x *stepArgs) {
			x.Rows[0].Cells = append(x.Rows[0].Cells, impl.Cell{Name: "afar", Value: number(1)})
		}, false},
		{"a value that does not fit", func(x *stepArgs) { x.Rows[0].Cells[0].Value = text("x") }, false},
		{"no type", func(x *stepArgs) { x.S.Type = "" }, false},
		{"no such type", func(x *stepArgs) { x.S.Type = "zz" }, false},
		{"no such type, and nothing asked for", func(x *stepArgs) { x.S.Type, x.S.Sels = "zz", nil }, false},
		{"another type's field", func(x *stepArgs) { x.S.Type = "user" }, false},
		{"a type without a row", func(x *stepArgs) { x.S.Type, x.S.Sels = "other", sels(sel("y")) }, true},
		{"no such field", func(x *stepArgs) { x.S.Sels = sels(sel("n"), sel("zz")) }, false},
		{"no field", func(x *stepArgs) { x.S.Sels = sels(sel("")) }, false},
		{"a Far field", func(x *stepArgs) { x.S.Sels = sels(sel("afar")) }, false},
		{"a Far field below", func(x *stepArgs) { x.S.Sels = sels(sel("u", sel("id"), sel("x"))) }, false},
		{"no such field below", func(x *stepArgs) { x.S.Sels = sels(sel("u", sel("pal", sel("n")))) }, false},
		{"no such field, and no thing along the way", func(x *stepArgs) { x.S.Way, x.S.Sels = []string{"zz"}, sels(sel("zz")) }, false},
		{"no such field, and it fails", func(x *stepArgs) { x.Fails, x.S.Sels = true, sels(sel("zz")) }, false},
		{"a type without Kids", func(x *stepArgs) { x.S.Sels = sels(sel("u")) }, false},
		{"a type without Kids below", func(x *stepArgs) { x.S.Sels = sels(sel("u", sel("pal"))) }, false},
		{"a word with Kids", func(x *stepArgs) { x.S.Sels = sels(sel("n", sel("n"))) }, false},
		{"a word with Kids below", func(x *stepArgs) { x.S.Sels = sels(sel("u", sel("id", sel("id")))) }, false},
		{"as deep as can be", func(x *stepArgs) { x.S.Sels = sels(sel("u", deepSels(5)...)) }, true},
		{"deeper", func(x *stepArgs) { x.S.Sels = sels(sel("u", deepSels(6)...)) }, false},
		{"much deeper", func(x *stepArgs) { x.S.Sels = sels(sel("u", deepSels(1000)...)) }, false},
		{"fields that hold themselves", func(x *stepArgs) { x.S.Sels = sels(sel("u", held...)) }, false},
		{"raw is nothing", func(x *stepArgs) { x.Raw = impl.Value{} }, false},
		{"raw of no sort", func(x *stepArgs) { x.Raw.Sort = 8 }, false},
		{"raw is bad as a cell is", func(x *stepArgs) { x.Raw = bad() }, false},
		{"raw has what is bad as a cell is", func(x *stepArgs) { x.Raw = object("a", bad()) }, false},
		{"raw is bad, with its code", func(x *stepArgs) { x.Raw = badBy(1) }, false},
		{"raw is bad, and it fails", func(x *stepArgs) { x.Raw, x.Fails = badBy(3), true }, false},
		{"raw has what is bad, with its code", func(x *stepArgs) { x.Raw = object("a", badBy(1)) }, false},
		{"raw has what is bad, with another code", func(x *stepArgs) { x.Raw = object("a,b", null(), list(object("c", badBy(3)))) }, false},
		{"raw has what is bad, and it fails", func(x *stepArgs) { x.Raw, x.Fails = object("a", badBy(3)), true }, false},
		{"raw has what is bad, with no such code", func(x *stepArgs) { x.Raw = object("a", badBy(2)) }, false},
		{"raw is a list of what is bad", func(x *stepArgs) { x.Raw = list(object(""), badBy(1)) }, false},
		{"raw has what is bad, off the way", func(x *stepArgs) { x.Raw, x.S.Way = object("a,b", object(""), badBy(1)), []string{"a"} }, false},
		{"raw has what is bad, and nothing is asked for", func(x *stepArgs) { x.Raw, x.S.Sels = object("a", badBy(1)), nil }, false},
		{"raw has what is bad, with kids", func(x *stepArgs) { x.Raw = object("a", impl.Value{Sort: impl.Bad, Num: 3, Kids: []impl.Value{null()}}) }, false},
		{"raw has what is bad, with a text", func(x *stepArgs) { x.Raw = object("a", impl.Value{Sort: impl.Bad, Num: 3, Text: "x"}) }, false},
		{"raw with a name too few", func(x *stepArgs) { x.Raw.Kids = append(x.Raw.Kids, null()) }, false},
		{"raw with a name twice", func(x *stepArgs) { x.Raw = object("a,a", null(), null()) }, false},
		{"raw with what is no word", func(x *stepArgs) { x.Raw = object("A", null()) }, false},
		{"raw with a long text", func(x *stepArgs) { x.Raw = object("a", text(strings.Repeat("a", 25))) }, false},
		{"raw with a great number", func(x *stepArgs) { x.Raw = object("a", number(1000000)) }, false},
		{"raw with as many levels as can be", func(x *stepArgs) { x.Raw = object("a", levels(15)) }, true},
		{"raw with more levels", func(x *stepArgs) { x.Raw = object("a", levels(16)) }, false},
		{"raw with as many parts as can be", func(x *stepArgs) { x.Raw = wide }, true},
		{"raw with more parts", func(x *stepArgs) { x.Raw = wider }, false},
	} {
		x := deep(fine)
		c.change(&x)
		want := impl.Value{}
		if c.ok {
			want = doneByHand(x.P, x.Rows, x.S, x.Raw, x.Fails)
		}
		wantStep(t, c.what, x, want)
	}
}

// Steps of asks by chance, changed by hand, behind any others.
func TestSailStepByChance(t *testing.T) {
	r := rand.New(rand.NewSource(71))
	done, bads := 0, 0
	for range 2500 {
		v := anySailing(r)
		if r.Intn(2) == 0 {
			v = loosen(r, v)
		}
		raw := object("")
		for _, s := range v.steps {
			if !impl.JsonOk(raw) && r.Intn(3) > 0 {
				raw = mended(raw)
			}
			p, rows := v.parts[s.Part], v.stores[s.Part]
			if r.Intn(8) == 0 {
				s.Brings = nil
			}
			if r.Intn(20) == 0 && len(s.Way) > 0 {
				s.Way = s.Way[1:]
			}
			fails := r.Intn(6) == 0
			got := impl.SailStep(p, rows, s, raw, fails)
			want := doneByHand(p, rows, s, raw, fails)
			if !impl.JsonOk(raw) {
				if !isNothing(got) {
					t.Fatalf("%v%v of %v, which is not ok: %v", v, s, raw, got)
				}
				raw = want
				bads++
				continue
			}
			if !same(got, want) {
				t.Fatalf("%v%v of %v: %v, want %v", v, s, raw, got, want)
			}
			wantNames(t, raw, got)
			raw = got
			done++
		}
	}
	if done < 5000 || bads < 500 {
		t.Errorf("%d steps, %d of what is bad", done, bads)
	}
}

// mended is a value with null for all that is bad in it.
func mended(v impl.Value) impl.Value {
	if v.Sort == impl.Bad {
		return null()
	}
	v = deep(v)
	for i, kid := range v.Kids {
		v.Kids[i] = mended(kid)
	}
	return v
}

// wantNames fails if a thing has lost a name (P38: behind SailStep each thing has all the names that it had).
func wantNames(t *testing.T, before, after impl.Value) {
	t.Helper()
	if before.Sort == impl.JsonObj {
		for i, name := range before.Names {
			if i >= len(after.Names) || after.Names[i] != name {
				t.Fatalf("%v is lost behind %v", name, before)
			}
		}
	}
	for i, kid := range before.Kids {
		if kid.Sort == impl.JsonObj || kid.Sort == impl.JsonList {
			wantNames(t, kid, after.Kids[i])
		}
	}
}

// P38: behind SailStep each thing has all the names that it had.
func TestP38(t *testing.T) {
	r := rand.New(rand.NewSource(72))
	for range 1500 {
		v := anySailing(r)
		raw := object("first", object("_id,x", number(1), list(null())))
		for _, s := range v.steps {
			next := impl.SailStep(v.parts[s.Part], v.stores[s.Part], s, raw, r.Intn(3) == 0)
			if countByHand(raw) > 600 {
				break
			}
			wantNames(t, raw, next)
			raw = mended(next)
		}
	}
}

func TestSailAll(t *testing.T) {
	example := []string{eastTold, westTold}
	swap := func(cell string, v impl.Value) []impl.Row {
		rows := exampleRows()
		for i := range rows {
			for j := range rows[i].Cells {
				if rows[i].Cells[j].Name == cell && (rows[i].Id == 1 || rows[i].Id == 0) {
					rows[i].Cells[j].Value = v
				}
			}
		}
		return rows
	}
	for _, c := range []struct {
		what  string
		rows  []impl.Row
		line  string
		fails []int
		want  string
	}{
		{"the example", exampleRows(), "{users{name,rank},n1}", nil, `{"data":{"users":[{"name":"ann","rank":35},{"name":"bob","rank":null}],"n1":2}}`},
		{"the first fails", exampleRows(), "{users{name,rank},n1}", []int{0}, `{"data":{"users":null,"n1":2},"wrong":[{"way":["users"],"code":3}]}`},
		{"the second fails", exampleRows(), "{users{name,rank},n1}", []int{1}, `{"data":{"users":[{"name":"ann","rank":null},{"name":"bob","rank":null}],"n1":2},"wrong":[{"way":["users","0","rank"],"code":3},{"way":["users","1","rank"],"code":3}]}`},
		{"the last fails", exampleRows(), "{users{name,rank},n1}", []int{2}, `{"data":{"users":[{"name":"ann","rank":35},{"name":"bob","rank":null}],"n1":null},"wrong":[{"way":["n1"],"code":3}]}`},
		{"two fail", exampleRows(), "{users{name,rank},n1}", []int{2, 1, 2}, `{"data":{"users":[{"name":"ann","rank":null},{"name":"bob","rank":null}],"n1":null},"wrong":[{"way":["users","0","rank"],"code":3},{"way":["users","1","rank"],"code":3},{"way":["n1"],"code":3}]}`},
		{"all fail", exampleRows(), "{users{name,rank},n1}", []int{0, 1, 2}, `{"data":{"users":null,"n1":null},"wrong":[{"way":["users"],"code":3},{"way":["n1"],"code":3}]}`},
		{"what is no step fails", exampleRows(), "{n0}", []int{1, -1, 99}, `{"data":{"n0":1}}`},
		{"a number that no row has", swap("users", list(number(1), number(9), null())), "{users{rank}}", nil, `{"data":{"users":[{"rank":35},null,null]}}`},
		{"nobody", swap("users", list()), "{users{rank}}", []int{1}, `{"data":{"users":[]}}`},
		{"a bad list", swap("users", bad()), "{users{rank}}", []int{1}, `{"data":{"users":null},"wrong":[{"way":["users"],"code":1}]}`},
		{"null for a list", swap("users", null()), "{users{rank}}", []int{1}, `{"data":{"users":null}}`},
		{"what is needed is bad", swap("age", bad()), "{users{rank}}", nil, `{"data":{"users":[{"rank":null},{"rank":null}]},"wrong":[{"way":["users","0","rank"],"code":1}]}`},
		{"too great a sum", swap("age", number(999995)), "{users{rank}}", nil, `{"data":{"users":[{"rank":null},{"rank":null}]},"wrong":[{"way":["users","0","rank"],"code":1}]}`},
		{"just not too great", swap("age", number(999994)), "{users{rank}}", nil, `{"data":{"users":[{"rank":999999},{"rank":null}]}}`},
		{"what must be there is bad", swap("name", bad()), "{users{name,rank}}", []int{1}, `{"data":{"users":[null,{"name":"bob","rank":null}]},"wrong":[{"way":["users","0","name"],"code":1},{"way":["users","0","rank"],"code":3},{"way":["users","1","rank"],"code":3}]}`},
	} {
		v := sailingOf(t, c.rows, c.line, example...)
		for _, picks := range [][]int{nil, {0}, {1}, {1, 0}, {-1, 5}, {1023}, {1024}, {2, 3, 1025}} {
			if got := v.sail(t, picks, c.fails); got != c.want {
				t.Errorf("%s, picks %v: %s, want %s", c.what, picks, got, c.want)
			}
			if got, _ := sailByHand(v, picks, c.fails); got != c.want {
				t.Errorf("%s: by hand it is %s", c.what, got)
			}
		}
	}
}

// A thing that its part has no row of is known by what other parts have.
func TestSailWithoutARow(t *testing.T) {
	v := sailingOf(t, exampleRows(), "{users{name,rank,id}}", eastTold, westTold)
	v.stores[1] = v.stores[1][:2]
	if got := v.sail(t, nil, nil); got != `{"data":{"users":[{"name":"ann","rank":35,"id":1},{"name":"bob","rank":null,"id":2}]},"wrong":[{"way":["users","1","rank"],"code":3}]}` {
		t.Error(got)
	}
	v.stores[0] = v.stores[0][:2]
	if got := v.sail(t, nil, nil); got != `{"data":{"users":[{"name":"ann","rank":35,"id":1},null]}}` {
		t.Error(got)
	}
	// What must be there, and is not known because of its part, makes the thing null.
	must := sailingOf(t, []impl.Row{row("query", 0, "n,o", number(1), number(1)), row("u", 1, "id,x", number(1), number(2))}, "{n{x},o{id}}", "a; type query; n u; o u; type u key id; id int!", "b; type query; m int; type u key id; id int!; x int!")
	must.stores[1] = must.stores[1][:1]
	if got := must.sail(t, nil, nil); got != `{"data":{"n":null,"o":{"id":1}},"wrong":[{"way":["n","x"],"code":3}]}` {
		t.Error(got)
	}
}

// What is brought from a third part: each step that brings fails alone, in any order.
func TestSailThirdPart(t *testing.T) {
	told := []string{"a; type query; n [u]; type u key id; id int!", "b; type query; m int; type u key id; id int!; x int far; r int needs x", "c; type query; k int; type u key id; id int!; x int far; s int needs x", "d; type query; l int; type u key id; id int!; x int"}
	rows := []impl.Row{row("query", 0, "n,m,k,l", list(number(1), number(2)), null(), null(), null()), row("u", 1, "id,r,s,x", number(1), number(10), number(20), number(3)), row("u", 2, "id,r,s,x", number(2), number(10), number(20), bad())}
	v := sailingOf(t, rows, "{n{s,r}}", told...)
	whole := impl.AnswerText(impl.WholeAnswer(v.c.All, v.rows, v.a))
	const two = `{"way":["n","1","s"],"code":1},{"way":["n","1","r"],"code":1}]}`
	if len(v.steps) != 5 || whole != `{"data":{"n":[{"s":23,"r":13},{"s":null,"r":null}]},"wrong":[`+two {
		t.Fatal(whole, v)
	}
	r := rand.New(rand.NewSource(73))
	for _, c := range []struct {
		fails []int
		want  string
	}{
		{nil, whole},
		{[]int{1}, `{"data":{"n":[{"s":23,"r":null},{"s":null,"r":null}]},"wrong":[{"way":["n","0","r"],"code":3},{"way":["n","1","s"],"code":1},{"way":["n","1","r"],"code":3}]}`},
		{[]int{3}, `{"data":{"n":[{"s":null,"r":13},{"s":null,"r":null}]},"wrong":[{"way":["n","0","s"],"code":3},{"way":["n","1","s"],"code":3},{"way":["n","1","r"],"code":1}]}`},
		{[]int{1, 3}, `{"data":{"n":[{"s":null,"r":null},{"s":null,"r":null}]},"wrong":[{"way":["n","0","s"],"code":3},{"way":["n","0","r"],"code":3},{"way":["n","1","s"],"code":3},{"way":["n","1","r"],"code":3}]}`},
		{[]int{2}, `{"data":{"n":[{"s":23,"r":null},{"s":null,"r":null}]},"wrong":[{"way":["n","0","r"],"code":3},{"way":["n","1","s"],"code":1},{"way":["n","1","r"],"code":3}]}`},
	} {
		for range 60 {
			picks := somePicks(r)
			if got := v.sail(t, picks, c.fails); got != c.want {
				t.Fatalf("fails %v, picks %v: %s, want %s", c.fails, picks, got, c.want)
			}
		}
	}
}

// A need that is named as the key is brought, whoever knows it.
func TestSailNeedNamedAsKey(t *testing.T) {
	rows := []impl.Row{row("query", 0, "n,m,k", number(1), null(), null()), row("u", 1, "no,id,r", number(1), number(40), number(2))}
	for _, told := range [][]string{
		{"a; type query; n u; type u key no; no int!; id int", "b; type query; m int; type u key no; no int!; id int far; r int needs id", "c; type query; k int"},
		{"a; type query; n u; type u key no; no int!", "b; type query; m int; type u key no; no int!; id int far; r int needs id", "c; type query; k int; type u key no; no int!; id int"},
	} {
		v := sailingOf(t, rows, "{n{r}}", told...)
		if got := v.sail(t, nil, nil); got != `{"data":{"n":{"r":42}}}` || got != impl.AnswerText(impl.WholeAnswer(v.c.All, v.rows, v.a)) {
			t.Error(got)
		}
	}
}

func TestSailAllRefuses(t *testing.T) {
	v := sailingOf(t, exampleRows(), "{users{name,rank},n1}", eastTold, westTold)
	broken := deep(v.stores)
	broken[1][1].Cells[0].Value = number(2)
	other := []impl.Part{v.parts[1], v.parts[0]}
	lost := crew(t, "a; type query; n u; type u; x int", "b; type query; m u; type u; y int")
	kept := [][]impl.Row{{row("query", 0, "n", null())}, {row("query", 0, "m", null())}}
	for _, c := range []struct {
		what   string
		parts  []impl.Part
		stores [][]impl.Row
		a      []impl.Sel
		ok     bool
	}{
		{"fine", v.parts, v.stores, v.a, true},
		{"no stores", v.parts, nil, v.a, false},
		{"a store too few", v.parts, v.stores[:1], v.a, false},
		{"a store too many", v.parts, append(slices.Clone(v.stores), v.stores[0]), v.a, false},
		{"a store that is not ok", v.parts, broken, v.a, false},
		{"a store that is not ok, of a part that is not asked", v.parts, broken, ask(t, "{n0}"), false},
		{"an empty store", v.parts, [][]impl.Row{v.stores[0], nil}, ask(t, "{n0}"), false},
		{"the stores the other way round", other, v.stores, v.a, false},
		{"both the other way round", other, [][]impl.Row{v.stores[1], v.stores[0]}, v.a, true},
		{"an ask with a fault", v.parts, v.stores, ask(t, "{users{zz}}"), false},
		{"no ask", v.parts, v.stores, nil, false},
		{"no chart", v.parts[1:], v.stores[1:], ask(t, "{n1}"), false},
		{"no parts", nil, nil, v.a, false},
		{"nobody answers", lost, kept, ask(t, "{n{y}}"), false},
		{"somebody answers", lost, kept, ask(t, "{n{x}}"), true},
	} {
		got, ok := impl.SailAll(c.parts, c.stores, c.a, []int{1}, []int{0})
		if ok != c.ok || !ok && !isNothing(got) {
			t.Errorf("%s: %v, %v", c.what, got, ok)
		}
		fetches := impl.SailFetches(c.parts, c.stores, c.a)
		if (len(fetches) > 0) != c.ok {
			t.Errorf("%s: fetches %v", c.what, fetches)
		}
	}
}

// P33: of parts by which all can be answered, and what each has of a store of All, SailAll without fails is WholeAnswer of All. P13: StoreCut of a store of All is a store of each part of a chart.
func TestP13P33(t *testing.T) {
	r := rand.New(rand.NewSource(74))
	wrongs, reached := 0, 0
	for range 4000 {
		v := anySailing(r)
		for i, p := range v.parts {
			cut := impl.StoreCut(p, v.rows)
			if !impl.StoreOk(p, cut) || !same(cut, v.stores[i]) {
				t.Fatalf("%v of %v is no store of\n%s", cut, v.rows, byHand(p))
			}
		}
		want := impl.WholeAnswer(v.c.All, v.rows, v.a)
		got, ok := impl.SailAll(v.parts, v.stores, v.a, somePicks(r), nil)
		if !ok || !same(got, want) {
			t.Fatalf("%v\n%s, want\n%s", v, impl.AnswerText(got), impl.AnswerText(want))
		}
		if len(got.Wrongs) > 0 {
			wrongs++
		}
		if ok, _ := impl.ReachOk(v.parts); ok {
			reached++
		}
	}
	if wrongs < 500 || reached < 2000 {
		t.Errorf("%d with Wrongs, %d of which all can be answered", wrongs, reached)
	}
}

// What is known may be greater than a value that is ok.
func TestSailGreat(t *testing.T) {
	rows := []impl.Row{row("query", 0, "us", list(number(1), number(2), number(3)))}
	for id := 1; id <= 3; id++ {
		rows = append(rows, row("u", id, "id,ps,x,r", number(id), list(number(3), number(id), number(1)), number(10), number(100)))
	}
	v := sailingOf(t, rows, "{us{ps{ps{ps{id,a:id,b:id,r,c:r,d:r,x}}}}}", "a; type query; us [u]; type u key id; id int!; ps [u]", "b; type query; m int; type u key id; id int!; x int far; r int needs x", "c; type query; k int; type u key id; id int!; x int")
	got, ok := impl.SailAll(v.parts, v.stores, v.a, []int{1}, nil)
	if !ok || countByHand(got.Data) < 600 || !same(got, impl.WholeAnswer(v.c.All, v.rows, v.a)) || impl.AnswerText(got) != wholeByHand(v.c.All, v.rows, v.a) {
		t.Errorf("%d parts", countByHand(got.Data))
	}
	lost, _ := impl.SailAll(v.parts, v.stores, v.a, nil, []int{1})
	if len(lost.Wrongs) != 81*3 || !isLess(lost.Data, got.Data) {
		t.Errorf("%d wrongs", len(lost.Wrongs))
	}
}

// P34: SailAll is the same by any picks, with the same fails.
func TestP34(t *testing.T) {
	r := rand.New(rand.NewSource(75))
	plain, twice := 0, 0
	for i := range 1500 {
		v := anySailing(r)
		if i%2 == 0 {
			v = loosen(r, v)
		}
		fails := somePlaces(r, len(v.steps))
		want := v.sail(t, nil, fails)
		for range 4 {
			picks := somePicks(r)
			if got := v.sail(t, picks, fails); got != want {
				t.Fatalf("%v, fails %v, picks %v: %s, want %s", v, fails, picks, got, want)
			}
			if v.isPlain() {
				plain++
				if got, order := sailByHand(v, picks, fails); got != want {
					t.Fatalf("%v, fails %v, done %v: %s, by hand %s", v, fails, order, want, got)
				}
			}
		}
		// In the order of their places each step sees what it comes behind, even if two bring the same.
		if !v.isPlain() && !v.hasNeedNamedAsKey() {
			twice++
			if got, _ := sailByHand(v, nil, fails); got != want {
				t.Fatalf("%v, fails %v: %s, by hand %s", v, fails, want, got)
			}
		}
	}
	if plain < 1500 || twice < 25 {
		t.Errorf("%d plain, %d with what is brought twice", plain, twice)
	}
}

// Each order in which steps can be done, each fails alone and each two.
func TestSailEveryOrder(t *testing.T) {
	r := rand.New(rand.NewSource(76))
	orders := 0
	for orders < 2000 {
		v := anySailing(r)
		if len(v.steps) < 3 || len(v.steps) > 5 {
			continue
		}
		var fails [][]int
		for i := range v.steps {
			for j := range i + 1 {
				fails = append(fails, []int{i, j})
			}
		}
		fails = append(fails, nil, []int{0, 1, 2, 3, 4})
		all := everyOrder(v.steps)
		orders += len(all)
		for _, f := range fails {
			want := v.sail(t, nil, f)
			for _, picks := range all {
				if got := v.sail(t, picks, f); got != want {
					t.Fatalf("%v, fails %v, picks %v: %s, want %s", v, f, picks, got, want)
				}
			}
		}
	}
}

// everyOrder is picks for each order in which steps can be done.
func everyOrder(steps []impl.Step) [][]int {
	var out [][]int
	var walk func(done, picks []int)
	walk = func(done, picks []int) {
		ready := readyByHand(steps, done)
		if len(ready) == 0 {
			out = append(out, picks)
		}
		for i, place := range ready {
			walk(append(slices.Clone(done), place), append(slices.Clone(picks), i-1024*(i%2)))
		}
	}
	walk(nil, nil)
	return out
}

// hasNeedNamedAsKey says whether a step brings a field that is named as the key of another name is.
func (v sailing) hasNeedNamedAsKey() bool {
	return slices.ContainsFunc(v.steps, func(s impl.Step) bool {
		return slices.Contains(s.Brings, "id") && keyByHand(linesOf(v.parts), s.Type) != "id"
	})
}

// isLess says whether all that is not null in data is what other data has there.
func isLess(data, other impl.Value) bool {
	if data.Sort == impl.JsonNull {
		return true
	}
	if data.Sort != other.Sort || data.Num != other.Num || data.Text != other.Text || !slices.Equal(data.Names, other.Names) || len(data.Kids) != len(other.Kids) {
		return false
	}
	for i, kid := range data.Kids {
		if !isLess(kid, other.Kids[i]) {
			return false
		}
	}
	return true
}

func hasCode(a impl.Answer, code int) bool {
	return slices.ContainsFunc(a.Wrongs, func(w impl.Wrong) bool { return w.Code == code })
}

// P35: what is not null in SailAll's Data is what WholeAnswer has there; without a Wrong of WrongPart it is WholeAnswer. P36: if one step fails, and Data is another one than WholeAnswer's, there is a Wrong of WrongPart. P79: with one more step that fails, what is not null in SailAll's data is what it was.
func TestP35P36P79(t *testing.T) {
	r := rand.New(rand.NewSource(77))
	less, alike := 0, 0
	for range 3000 {
		v := anySailing(r)
		whole := impl.WholeAnswer(v.c.All, v.rows, v.a)
		fails := somePlaces(r, len(v.steps))
		got, _ := impl.SailAll(v.parts, v.stores, v.a, somePicks(r), fails)
		if !isLess(got.Data, whole.Data) || !hasCode(got, impl.WrongPart) && !same(got, whole) {
			t.Fatalf("%v, fails %v: %v, want %v", v, fails, got, whole)
		}
		fails = append(fails, r.Intn(len(v.steps)))
		more, _ := impl.SailAll(v.parts, v.stores, v.a, somePicks(r), fails)
		if !isLess(more.Data, got.Data) {
			t.Fatalf("%v, fails %v: %v, before %v", v, fails, more, got)
		}
		alone, _ := impl.SailAll(v.parts, v.stores, v.a, nil, fails[len(fails)-1:])
		if !same(alone.Data, whole.Data) {
			less++
			if !hasCode(alone, impl.WrongPart) {
				t.Fatalf("%v, fails %v: %v", v, fails, alone)
			}
		} else {
			alike++
		}
	}
	if less < 1000 || alike < 100 {
		t.Errorf("%d have less, %d all", less, alike)
	}
}

// P52: if all steps fail, each outermost field is null, or Data is, and there is one Wrong for each.
func TestP52(t *testing.T) {
	r := rand.New(rand.NewSource(78))
	nulls := 0
	for range 1500 {
		v := anySailing(r)
		if r.Intn(2) == 0 {
			v = loosen(r, v)
		}
		var fails []int
		for i := range v.steps {
			fails = append(fails, i)
		}
		got, _ := impl.SailAll(v.parts, v.stores, v.a, somePicks(r), fails)
		if len(got.Wrongs) != len(v.a) {
			t.Fatalf("%v: %v", v, got)
		}
		for i, w := range got.Wrongs {
			if !slices.Equal(w.Way, []string{answered(v.a[i])}) || w.Code != impl.WrongPart {
				t.Fatalf("%v: %v", v, got)
			}
			if v, ok := under(got.Data, answered(v.a[i])); ok && v.Sort != impl.JsonNull {
				t.Fatalf("not null: %v", got)
			}
		}
		if got.Data.Sort == impl.JsonNull {
			nulls++
		}
	}
	if nulls < 20 {
		t.Errorf("only %d without Data", nulls)
	}
}

// P56: with one part more that knows one field of `query` of its own, ReachOk and SailAll are as before (if there is room).
func TestP56(t *testing.T) {
	r := rand.New(rand.NewSource(79))
	tried := 0
	for range 2500 {
		v := anySailing(r)
		more := impl.Part{Name: "more", Types: []impl.Type{{Name: "query", Fields: []impl.Field{{Name: "own", Of: "int"}}}}}
		parts := append(slices.Clone(v.parts), more)
		if _, fault := impl.ChartMake(parts); fault.Code != 0 {
			continue
		}
		tried++
		fails := somePlaces(r, len(v.steps))
		before, way := impl.ReachOk(v.parts)
		after, other := impl.ReachOk(parts)
		if before != after || !slices.Equal(way, other) {
			t.Fatalf("%v, %v, before %v, %v", after, other, before, way)
		}
		stores := append(slices.Clone(v.stores), []impl.Row{row("query", 0, "own", number(1))})
		want, _ := impl.SailAll(v.parts, v.stores, v.a, nil, fails)
		if got, ok := impl.SailAll(parts, stores, v.a, nil, fails); !ok || !same(got, want) {
			t.Fatalf("%v: %v, want %v", v, got, want)
		}
	}
	if tried < 1000 {
		t.Errorf("only %d tried", tried)
	}
}

// P80: if one step fails that is not among the After of any, each Wrong of WrongPart stands at one of its Sels along its Way.
func TestP80(t *testing.T) {
	r := rand.New(rand.NewSource(80))
	wrongs := 0
	for range 2500 {
		v := anySailing(r)
		at := r.Intn(len(v.steps))
		if slices.ContainsFunc(v.steps, func(s impl.Step) bool { return slices.Contains(s.After, at) }) {
			continue
		}
		got, _ := impl.SailAll(v.parts, v.stores, v.a, somePicks(r), []int{at})
		for _, w := range got.Wrongs {
			if w.Code != impl.WrongPart {
				continue
			}
			wrongs++
			names := slices.DeleteFunc(slices.Clone(w.Way), func(name string) bool { return name[0] >= '0' && name[0] <= '9' })
			last := len(names) - 1
			if !slices.Equal(names[:last], v.steps[at].Way) || !slices.ContainsFunc(v.steps[at].Sels, func(s impl.Sel) bool { return answered(s) == names[last] }) {
				t.Fatalf("%v: the step %d fails, and wrong is %v", v, at, w)
			}
		}
	}
	if wrongs < 500 {
		t.Errorf("only %d wrongs", wrongs)
	}
}

// What a call answers does not hang on how goroutines run, and none of them is left.
func TestSailGoroutines(t *testing.T) {
	r := rand.New(rand.NewSource(81))
	before := runtime.NumGoroutine()
	defer runtime.GOMAXPROCS(runtime.GOMAXPROCS(0))
	for range 150 {
		v := anySailing(r)
		fails, picks := somePlaces(r, len(v.steps)), somePicks(r)
		want := v.sail(t, picks, fails)
		for i := range 12 {
			runtime.GOMAXPROCS(1 + i%8)
			if got := v.sail(t, picks, fails); got != want {
				t.Fatalf("%s, then %s", want, got)
			}
		}
		impl.SailFetches(v.parts, v.stores, v.a)
	}
	for range 100 {
		if runtime.NumGoroutine() <= before {
			return
		}
		time.Sleep(10 * time.Millisecond)
	}
	t.Errorf("%d goroutines, before %d", runtime.NumGoroutine(), before)
}
