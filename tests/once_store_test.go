package tests

import (
	"math/rand"
	"slices"
	"testing"

	"loop.example/portolan/impl"
)

// graphArgs are arguments of the functions of stores and of one graph, told as one.
type graphArgs struct {
	P      impl.Part
	Rows   []impl.Row
	A      []impl.Sel
	Answer impl.Answer
}

// askAllGraphs calls each function of stores and of one graph.
func askAllGraphs(x graphArgs) {
	impl.StoreOk(x.P, x.Rows)
	impl.StoreCut(x.P, x.Rows)
	for _, r := range x.Rows {
		for _, c := range r.Cells {
			impl.StoreGet(x.Rows, r.Type, r.Id, c.Name)
		}
		impl.StoreGet(x.Rows, r.Type, r.Id, "zz")
	}
	impl.StoreGet(x.Rows, "user", 1, "b")
	impl.AnswerText(impl.WholeAnswer(x.P, x.Rows, x.A))
	impl.AnswerText(x.Answer)
}

// endless are values that hold themselves, or share so much that nobody could tell all of it.
func endless() []impl.Value {
	kids := make([]impl.Value, 2)
	kids[0], kids[1] = null(), impl.Value{Sort: impl.JsonList, Kids: kids}
	first := make([]impl.Value, 2)
	first[0], first[1] = impl.Value{Sort: impl.JsonList, Kids: first}, null()
	ring := make([]impl.Value, 1)
	ring[0] = impl.Value{Sort: impl.JsonObj, Names: []string{"a"}, Kids: ring}
	many := make([]impl.Value, 1000)
	for i := range many {
		many[i] = impl.Value{Sort: impl.JsonList, Kids: many}
	}
	wide := list(null())
	for range 15 {
		wide = list(slices.Repeat([]impl.Value{wide}, 100)...)
	}
	return []impl.Value{kids[1], first[0], ring[0], many[0], wide, list(number(1), ring[0])}
}

func TestOnceStoresWithoutEnd(t *testing.T) {
	p := part(t, "part a\ntype query\n  n int\n  b int\n  l [int]\n")
	for i, v := range endless() {
		names := []string{"n", "b", "l"}
		name, other := names[i%3], names[(i+1)%3]
		rows := []impl.Row{row("query", 0, "n,b,l", null(), null(), null())}
		rows[0].Cells[i%3].Value = v
		if impl.StoreOk(p, rows) {
			t.Errorf("%d: a store", i)
		}
		if got, ok := impl.StoreGet(rows, "query", 0, name); ok || !isNothing(got) {
			t.Errorf("%d: got", i)
		}
		if got, ok := impl.StoreGet(rows, "query", 0, other); !ok || !same(got, null()) {
			t.Errorf("%d: beside it there is %v", i, got)
		}
		if got := impl.WholeAnswer(p, rows, sels(sel(other))); !isNothing(got) {
			t.Errorf("%d: answered", i)
		}
		cut := impl.StoreCut(p, rows)
		if got, ok := impl.StoreGet(cut, "query", 0, name); !ok || !isNothing(got) || len(cut) != 1 || len(cut[0].Cells) != 3 {
			t.Errorf("%d: cut to something", i)
		}
		// The row has the cell, and it does not fit: so it is of the cut.
		if impl.StoreOk(p, cut) || !same(impl.StoreCut(p, cut), cut) {
			t.Errorf("%d: cut to a store", i)
		}
		if got := impl.AnswerText(impl.Answer{Data: list(null(), v), Wrongs: []impl.Wrong{{Code: 1}}}); got != `{"wrong":0}` {
			t.Errorf("%d: told as %.60s", i, got)
		}
	}
}

func TestOnceGreatStores(t *testing.T) {
	p := part(t, "part a\ntype query\n  n int\ntype user\n  a int\n")
	deepest := []impl.Row{row("query", 0, "n", deepList(2000000))}
	got, ok := impl.StoreGet(deepest, "query", 0, "n")
	for _, v := range []impl.Value{got, impl.StoreCut(p, deepest)[0].Cells[0].Value} {
		levels := 1
		for len(v.Kids) == 1 {
			v, levels = v.Kids[0], levels+1
		}
		if !ok || levels != 2000000 {
			t.Errorf("%d levels are told", levels)
		}
	}
	if impl.StoreOk(p, deepest) || !isNothing(impl.WholeAnswer(p, deepest, sels(sel("n")))) {
		t.Error("many levels: a store")
	}
	rows := make([]impl.Row, 1000000)
	for i := range rows {
		rows[i] = impl.Row{Type: "user", Id: i}
	}
	if cut := impl.StoreCut(p, rows); impl.StoreOk(p, rows) || len(cut) != len(rows) || cut[999999].Id != 999999 {
		t.Error("many rows")
	}
	if got, ok := impl.StoreGet(rows, "user", 999999, "a"); ok || !isNothing(got) {
		t.Error("many rows without a cell")
	}
	cells := []impl.Row{{Type: "query", Cells: make([]impl.Cell, 1000000)}}
	cells[0].Cells[999999] = impl.Cell{Name: "n", Value: number(3)}
	if got, ok := impl.StoreGet(cells, "query", 0, "n"); !ok || got.Num != 3 || impl.StoreOk(p, cells) {
		t.Error("many cells")
	}
	ring := sels(sel("n"))
	ring[0].Kids = ring
	fine := []impl.Row{row("query", 0, "n", number(1))}
	for _, a := range [][]impl.Sel{ring, make([]impl.Sel, 1000000), nested(1000000)} {
		if got := impl.WholeAnswer(p, fine, a); !isNothing(got) {
			t.Errorf("a great ask: %v", got)
		}
	}
	huge := impl.Part{Name: "a", Types: make([]impl.Type, 1000000)}
	if impl.StoreOk(huge, fine) || !isNothing(impl.StoreCut(huge, fine)) || !isNothing(impl.WholeAnswer(huge, fine, sels(sel("n")))) {
		t.Error("a great part")
	}
}

func TestOnceAnyGraph(t *testing.T) {
	r := rand.New(rand.NewSource(37))
	for range 4000 {
		p, rows, a := anyGraph(r)
		for range r.Intn(3) {
			rows = breakStore(r, rows)
		}
		for range r.Intn(2) {
			breakPart(r, &p)
			a = breakAsk(r, a)
		}
		for i := range rows {
			for j := range rows[i].Cells {
				if r.Intn(20) == 0 {
					rows[i].Cells[j].Value = strangeValue(r, 3)
				}
			}
		}
		x := graphArgs{P: p, Rows: rows, A: a, Answer: impl.Answer{Data: strangeValue(r, 4), Wrongs: []impl.Wrong{{Way: []string{"a"}, Code: r.Intn(9) - 4}}}}
		askAllGraphs(x)
		fits := isStoreByHand(p, rows) && impl.AskCheck(p, a).Code == 0
		if impl.StoreOk(p, rows) != isStoreByHand(p, rows) || isNothing(impl.WholeAnswer(p, rows, a)) == fits {
			t.Fatalf("%v, %v, %v: store %v", p, rows, a, impl.StoreOk(p, rows))
		}
	}
}

func TestOnceNothingOfGraphsIsChanged(t *testing.T) {
	r := rand.New(rand.NewSource(38))
	for i := range 1500 {
		p, rows, a := anyGraph(r)
		answer := impl.WholeAnswer(p, rows, a)
		if i%3 == 0 {
			rows = breakStore(r, rows)
			answer.Data = strangeValue(r, 4)
		}
		wantUntouched(t, graphArgs{P: p, Rows: rows, A: a, Answer: answer}, askAllGraphs)
	}
}

func TestOnceNewMemoryOfGraphs(t *testing.T) {
	r := rand.New(rand.NewSource(39))
	for i := range 1500 {
		p, rows, a := anyGraph(r)
		if i%3 == 0 {
			rows[0].Cells = append(rows[0].Cells, impl.Cell{Name: "zz", Value: object("a", list(number(1)))})
		}
		x := roomy(graphArgs{P: p, Rows: rows, A: a})
		got := impl.WholeAnswer(x.P, x.Rows, x.A)
		wantApart(t, got, x)
		wantApart(t, impl.StoreCut(x.P, x.Rows), x)
		for _, one := range x.Rows {
			for _, c := range one.Cells {
				v, _ := impl.StoreGet(x.Rows, one.Type, one.Id, c.Name)
				wantApart(t, v, x)
			}
		}
	}
}

// What is done to an answer is not seen in the next one.
func TestOnceNothingOfGraphsIsKept(t *testing.T) {
	p, rows := city(t)
	a := ask(t, "{us{name,boss{name}},ws}")
	want := impl.AnswerText(impl.WholeAnswer(p, rows, a))
	got := impl.WholeAnswer(p, rows, a)
	got.Data.Kids[0].Kids[0].Names[0], got.Data.Kids[1].Kids[0].Text, got.Wrongs[0].Way[0] = "zz", "zz", "zz"
	cut := impl.StoreCut(p, rows)
	cut[0].Cells[2].Value.Kids[0].Num, cut[1].Cells[1].Name = 77, "zz"
	v, _ := impl.StoreGet(rows, "query", 0, "us")
	v.Kids[0].Num = 77
	if line := impl.AnswerText(impl.WholeAnswer(p, rows, a)); line != want {
		t.Errorf("now it is answered by %s, not by %s", line, want)
	}
}

// The empty list and the nil list are the same value.
func TestOnceEmptyListsOfGraphs(t *testing.T) {
	empty := func(v impl.Value) impl.Value {
		v.Names, v.Kids = []string{}, []impl.Value{}
		return v
	}
	p := part(t, "part a\ntype query\n  n int\n  t text\n  b bool\n  l [int]\n  z int\n  w int\ntype u\n  x int far\n")
	rows := []impl.Row{row("query", 0, "n,t,b,l,z,w", empty(number(1)), empty(text("x")), empty(truth(true)), empty(list()), empty(null()), empty(bad())), {Type: "u", Id: 1, Cells: []impl.Cell{}}}
	wantStore(t, "empty lists", p, rows, true)
	wantAnswer(t, p, rows, "{n,t,b,l,z,w}", `{"data":{"n":1,"t":"x","b":true,"l":[],"z":null,"w":null},"wrong":[{"way":["w"],"code":1}]}`)
	if got := impl.AnswerText(impl.Answer{Data: empty(object("")), Wrongs: []impl.Wrong{{Way: []string{}}}}); got != `{"data":{},"wrong":[{"way":[],"code":0}]}` {
		t.Errorf("told as %s", got)
	}
}
