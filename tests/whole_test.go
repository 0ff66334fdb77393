package tests

import (
	"math/rand"
	"slices"
	"strconv"
	"strings"
	"testing"

	"loop.example/portolan/impl"
)

// cityText has a thing that must be there and one that need not, lists of both, and sums.
const cityText = "part city\n" +
	"type query\n  n int\n  m int!\n  us [user]\n  ms [user]!\n  top user\n  sure user!\n  ws [text]!\n  gone int! far\n" +
	"type user key id\n  id int!\n  name text!\n  boss user\n  lead user!\n  age int\n  w int\n  rank int needs age w\n  one int needs id\n" +
	"type item\n  x int!\n"

// city is a store: ann (1) leads herself, bob (2) has a name that cannot be read, cid (3) a lead that is not there.
func city(t *testing.T) (impl.Part, []impl.Row) {
	t.Helper()
	return part(t, cityText), []impl.Row{
		row("query", 0, "n,m,us,ms,top,sure,ws", number(4), number(5), list(number(1), number(2), number(9)), list(number(3), null()), number(1), number(1), list(text("x"), null())),
		row("user", 1, "id,name,boss,lead,age,w,rank,one", number(1), text("ann"), number(2), number(1), number(30), number(4), number(1), number(6)),
		row("user", 2, "id,name,boss,lead,age,w,rank,one", number(2), bad(), null(), number(1), null(), number(4), number(1), number(999998)),
		row("user", 3, "id,name,boss,lead,age,w,rank,one", number(3), text("cid"), bad(), number(9), bad(), null(), number(1), null()),
	}
}

// wantAnswer fails if an ask is answered by another text than told, or than by hand.
func wantAnswer(t *testing.T, p impl.Part, rows []impl.Row, line, want string) {
	t.Helper()
	if !impl.StoreOk(p, rows) {
		t.Fatalf("%s: no store: %v", line, rows)
	}
	got := impl.AnswerText(wantWhole(t, p, rows, ask(t, line)))
	if got != want {
		t.Errorf("%s: answered by\n%s, want\n%s", line, got, want)
	}
}

func TestWholeAnswer(t *testing.T) {
	p, rows := city(t)
	for _, c := range []struct{ ask, want string }{
		{"{n}", `{"data":{"n":4}}`},
		{"{m,n,x:n}", `{"data":{"m":5,"n":4,"x":4}}`},
		{"{ws}", `{"data":{"ws":["x",null]}}`},
		{"{top{name,id}}", `{"data":{"top":{"name":"ann","id":1}}}`},
		{"{us{id}}", `{"data":{"us":[{"id":1},{"id":2},null]}}`},
		{"{ms{id}}", `{"data":{"ms":[{"id":3},null]}}`},
		{"{top(2){id},a:top(3){id},b:top(4){id},top1:top{id}}", `{"data":{"top":{"id":2},"a":{"id":3},"b":null,"top1":{"id":1}}}`},
		{"{top{boss{id,boss{id}}}}", `{"data":{"top":{"boss":{"id":2,"boss":null}}}}`},
		{"{sure{lead{lead{lead{id}}}}}", `{"data":{"sure":{"lead":{"lead":{"lead":{"id":1}}}}}}`},
		// Sums: a number of its own and each that it needs.
		{"{top{rank,one}}", `{"data":{"top":{"rank":35,"one":7}}}`},
		{"{top(2){rank,one}}", `{"data":{"top":{"rank":null,"one":null}},"wrong":[{"way":["top","one"],"code":1}]}`},
		{"{top(3){one}}", `{"data":{"top":{"one":null}}}`},
		// What cannot be read is null.
		{"{top(3){age,boss{id}}}", `{"data":{"top":{"age":null,"boss":null}},"wrong":[{"way":["top","age"],"code":1},{"way":["top","boss"],"code":1}]}`},
		{"{a:top(3){b:age}}", `{"data":{"a":{"b":null}},"wrong":[{"way":["a","b"],"code":1}]}`},
	} {
		wantAnswer(t, p, rows, c.ask, c.want)
	}
}

// Null goes up by Must to the thing, to the list's place, and to the data; and all that went wrong is told.
func TestWholeMust(t *testing.T) {
	p, rows := city(t)
	for _, c := range []struct{ ask, want string }{
		{"{top(2){id,name}}", `{"data":{"top":null},"wrong":[{"way":["top","name"],"code":1}]}`},
		{"{us{name},n}", `{"data":{"us":[{"name":"ann"},null,null],"n":4},"wrong":[{"way":["us","1","name"],"code":1}]}`},
		{"{us{name,boss{name}}}", `{"data":{"us":[{"name":"ann","boss":null},null,null]},"wrong":[{"way":["us","0","boss","name"],"code":1},{"way":["us","1","name"],"code":1}]}`},
		{"{top(3){lead{id}}}", `{"data":{"top":null},"wrong":[{"way":["top","lead"],"code":2}]}`},
		{"{ms{lead{id},age},n}", `{"data":{"ms":[null,null],"n":4},"wrong":[{"way":["ms","0","lead"],"code":2},{"way":["ms","0","age"],"code":1}]}`},
		{"{x:sure(3){b:lead{id},age}}", `{"data":null,"wrong":[{"way":["x","b"],"code":2},{"way":["x","age"],"code":1}]}`},
		{"{sure(9){id}}", `{"data":null,"wrong":[{"way":["sure"],"code":2}]}`},
		{"{sure(2){name},n,top(2){name}}", `{"data":null,"wrong":[{"way":["sure","name"],"code":1},{"way":["top","name"],"code":1}]}`},
		{"{sure(2){lead{name}}}", `{"data":{"sure":{"lead":{"name":"ann"}}}}`},
		{"{sure(3){name,a:lead{name},b:lead{id}},c:sure(8){id}}", `{"data":null,"wrong":[{"way":["sure","a"],"code":2},{"way":["sure","b"],"code":2},{"way":["c"],"code":2}]}`},
		// What a part knows only from others it has not.
		{"{n,gone}", `{"data":null,"wrong":[{"way":["gone"],"code":2}]}`},
	} {
		wantAnswer(t, p, rows, c.ask, c.want)
	}
	for _, name := range []string{"m", "ms", "sure", "ws"} {
		broken := deep(rows)
		at := slices.IndexFunc(broken[0].Cells, func(c impl.Cell) bool { return c.Name == name })
		broken[0].Cells[at].Value = bad()
		line := name
		if name == "ms" || name == "sure" {
			line += "{id}"
		}
		wantAnswer(t, p, broken, "{n,"+line+",top(2){name}}", `{"data":null,"wrong":[{"way":["`+name+`"],"code":1},{"way":["top","name"],"code":1}]}`)
	}
}

// The lists of nothing, of nulls, and what cannot be read instead of one.
func TestWholeLists(t *testing.T) {
	p, rows := city(t)
	for _, c := range []struct {
		v    impl.Value
		want string
	}{
		{list(), `{"data":{"us":[]}}`},
		{list(null(), null(), null()), `{"data":{"us":[null,null,null]}}`},
		{list(number(8), number(-1)), `{"data":{"us":[null,null]}}`},
		{list(number(1), number(1), number(1)), `{"data":{"us":[{"id":1},{"id":1},{"id":1}]}}`},
		{null(), `{"data":{"us":null}}`},
		{bad(), `{"data":{"us":null},"wrong":[{"way":["us"],"code":1}]}`},
	} {
		rows[0].Cells[2].Value = c.v
		wantAnswer(t, p, rows, "{us{id}}", c.want)
	}
	for _, c := range []struct {
		v    impl.Value
		want string
	}{
		{list(), `{"data":{"ms":[]}}`},
		{list(null(), number(8)), `{"data":{"ms":[null,null]}}`},
		{bad(), `{"data":null,"wrong":[{"way":["ms"],"code":1}]}`},
	} {
		rows[0].Cells[3].Value = c.v
		wantAnswer(t, p, rows, "{ms{id}}", c.want)
	}
}

// What is known of a field with Needs: which of it matters ahead of what else, and sums at both ends.
func TestWholeNeeds(t *testing.T) {
	p := part(t, "part a\ntype query\n  u user\ntype user key id\n  id int!\n  b int\n  a int\n  sum int needs a b\n")
	wrong := `{"data":{"u":{"sum":null}},"wrong":[{"way":["u","sum"],"code":1}]}`
	none := `{"data":{"u":{"sum":null}}}`
	plain := func(n int) string { return `{"data":{"u":{"sum":` + strconv.Itoa(n) + `}}}` }
	for _, c := range []struct {
		own, a, b impl.Value
		want      string
	}{
		{number(1), number(20), number(300), plain(321)},
		{number(-1), number(0), number(1), plain(0)},
		{number(999999), number(0), number(0), plain(999999)},
		{number(999998), number(0), number(1), plain(999999)},
		{number(0), number(999999), number(1), wrong},
		{number(999999), number(999999), number(-999999), plain(999999)},
		{number(999999), number(999999), number(999999), wrong},
		{number(-999999), number(0), number(0), plain(-999999)},
		{number(-999998), number(-1), number(0), plain(-999999)},
		{number(-999998), number(-1), number(-1), wrong},
		{number(-999999), number(-999999), number(-999999), wrong},
		{null(), number(1), number(1), none},
		{number(1), null(), number(1), none},
		{number(1), number(1), null(), none},
		{null(), null(), null(), none},
		{null(), number(999999), number(999999), none},
		{number(999999), number(999999), null(), none},
		{bad(), number(1), number(1), wrong},
		{number(1), bad(), number(1), wrong},
		{number(1), number(1), bad(), wrong},
		{null(), null(), bad(), wrong},
		{bad(), null(), null(), wrong},
		{null(), bad(), null(), wrong},
		{bad(), bad(), bad(), wrong},
	} {
		rows := []impl.Row{row("query", 0, "u", number(3)), row("user", 3, "id,b,a,sum", number(3), c.b, c.a, c.own)}
		wantAnswer(t, p, rows, "{u{sum}}", c.want)
	}
}

// What is Far is null, a sum that needs it, too: the part has not what it needs.
func TestWholeFar(t *testing.T) {
	p := part(t, "part west\ntype query\n  u user\n  off user far\n  offs [user] far\ntype user key id\n  id int!\n  age int far\n  rank int needs age\n  more int needs age id\n")
	rows := []impl.Row{row("query", 0, "u", number(1)), row("user", 1, "id,rank,more", number(1), number(5), bad())}
	wantAnswer(t, p, rows, "{u{rank,age,more}}", `{"data":{"u":{"rank":null,"age":null,"more":null}},"wrong":[{"way":["u","more"],"code":1}]}`)
	wantAnswer(t, p, rows, "{off{id},offs{id}}", `{"data":{"off":null,"offs":null}}`)
	wantAnswer(t, p, rows, "{off(1){id},a:off(2){id}}", `{"data":{"off":{"id":1},"a":null}}`)
}

// Wrongs are in the order in which things are asked for, thing by thing.
func TestWholeOrderOfWrongs(t *testing.T) {
	p, rows := city(t)
	rows[0].Cells[0].Value = bad()
	rows[0].Cells[2].Value = list(number(3), number(2), number(3))
	wantAnswer(t, p, rows, "{us{lead{id},c:age,boss{id},name},n,top(3){boss{id}},m}", `{"data":{"us":[null,null,null],"n":null,"top":{"boss":null},"m":5},"wrong":[`+
		`{"way":["us","0","lead"],"code":2},{"way":["us","0","c"],"code":1},{"way":["us","0","boss"],"code":1},`+
		`{"way":["us","1","name"],"code":1},`+
		`{"way":["us","2","lead"],"code":2},{"way":["us","2","c"],"code":1},{"way":["us","2","boss"],"code":1},`+
		`{"way":["n"],"code":1},{"way":["top","boss"],"code":1}]}`)
}

// At anything that is not ok there is nothing at all.
func TestWholeRefused(t *testing.T) {
	p, rows := city(t)
	for _, line := range []string{"{zz}", "{n{id}}", "{us}", "{us(1){id}}", "{n(1)}", "{top{boss(1){id}}}"} {
		if got := impl.WholeAnswer(p, rows, ask(t, line)); !isNothing(got) {
			t.Errorf("%s: answered by %v", line, got)
		}
	}
	n := ask(t, "{n}")
	for _, a := range [][]impl.Sel{nil, {}, sels(sel("")), sels(sel("n"), sel("n")), sels(one("n", -1))} {
		if got := impl.WholeAnswer(p, rows, a); !isNothing(got) {
			t.Errorf("%v: answered by %v", a, got)
		}
	}
	if got := impl.WholeAnswer(p, rows[1:], n); !isNothing(got) {
		t.Errorf("no store: answered by %v", got)
	}
	if got := impl.WholeAnswer(impl.Part{}, rows, n); !isNothing(got) {
		t.Errorf("no part: answered by %v", got)
	}
	p.Types[0].Fields[0].Hidden = true
	if got := impl.WholeAnswer(p, rows, n); !isNothing(got) {
		t.Errorf("hidden: answered by %v", got)
	}
	// What is not asked for must be ok, too, and may be hidden.
	wantAnswer(t, p, rows, "{m}", `{"data":{"m":5}}`)
	rows[3].Cells[0].Value = number(4)
	if got := impl.WholeAnswer(p, rows, ask(t, "{m}")); !isNothing(got) {
		t.Errorf("no store: answered by %v", got)
	}
}

// As many things, levels and values as there can be: the data is greater than a value of chapter 1 may be.
func TestWholeGreat(t *testing.T) {
	p := part(t, "part a\ntype query\n  us [u]\ntype u\n  us [u]\n  a text\n")
	rows := []impl.Row{row("query", 0, "us", list(number(0), number(1), number(2)))}
	for id := range 15 {
		rows = append(rows, row("u", id, "us,a", list(number(id%15), number((id+1)%15), number((id+2)%15)), text("x")))
	}
	var fields []string
	for i := range 20 {
		fields = append(fields, "a"+strconv.Itoa(i)+":a")
	}
	a := ask(t, "{us{us{us{us{"+strings.Join(fields, ",")+"}}}}}")
	got := wantWhole(t, p, rows, a)
	if impl.JsonOk(got.Data) || len(got.Wrongs) > 0 {
		t.Errorf("not great: %v", got)
	}
	if count := countByHand(got.Data); count != impl.AskCost(p, a) {
		t.Errorf("%d values, cost %d", count, impl.AskCost(p, a))
	}
}

// wantAskedFor fails if a thing has other names than asked for, or if something that must be there is null.
func wantAskedFor(t *testing.T, p impl.Part, of string, a []impl.Sel, thing impl.Value) {
	t.Helper()
	if thing.Sort == impl.JsonNull {
		return
	}
	var names []string
	for _, s := range a {
		names = append(names, answered(s))
	}
	if thing.Sort != impl.JsonObj || !slices.Equal(thing.Names, names) || len(thing.Kids) != len(names) {
		t.Fatalf("%s: %v", askByHand(a), thing)
	}
	for i, s := range a {
		f, _ := lookUp(p, of, s.Name)
		v := thing.Kids[i]
		if f.Must && v.Sort == impl.JsonNull {
			t.Fatalf("%s: %s is null: %v", askByHand(a), names[i], thing)
		}
		if isWordOfThree(f.Of) {
			continue
		}
		things := []impl.Value{v}
		if f.List && v.Sort == impl.JsonList {
			things = v.Kids
		}
		for _, one := range things {
			wantAskedFor(t, p, f.Of, s.Kids, one)
		}
	}
}

// P14, P15, P16, P19: an answer has just what was asked for; what must be there; nothing where something went wrong; and is not greater than was told.
func TestP14P15P16P19(t *testing.T) {
	r := rand.New(rand.NewSource(32))
	there, lost, wrongs, nones := 0, 0, 0, 0
	for range 6000 {
		p, rows, a := anyGraph(r)
		got := wantWhole(t, p, rows, a)
		wantAskedFor(t, p, "query", a, got.Data)
		if count := countByHand(got.Data); count > impl.AskCost(p, a) {
			t.Fatalf("%s: %d values, told at most %d", askByHand(a), count, impl.AskCost(p, a))
		}
		for _, w := range got.Wrongs {
			if !endsAtNull(got.Data, w.Way) {
				t.Fatalf("%s: nothing is null along %v: %v", askByHand(a), w.Way, got.Data)
			}
			wrongs++
			if w.Code == impl.WrongNone {
				nones++
			}
		}
		if got.Data.Sort == impl.JsonNull {
			lost++
			if len(got.Wrongs) == 0 {
				t.Fatalf("%s: null, but nothing went wrong", askByHand(a))
			}
		} else {
			there++
		}
	}
	if there < 2000 || lost < 500 || wrongs < 1000 || nones < 500 {
		t.Errorf("too few: %d answered, %d not, %d wrongs, %d of them none", there, lost, wrongs, nones)
	}
}

// endsAtNull says whether a way leads to null, at its end or ahead of it.
func endsAtNull(v impl.Value, way []string) bool {
	for _, step := range way {
		if v.Sort == impl.JsonNull {
			return true
		}
		at := slices.Index(v.Names, step)
		if v.Sort == impl.JsonList {
			at, _ = strconv.Atoi(step)
		}
		if at < 0 || at >= len(v.Kids) {
			return false
		}
		v = v.Kids[at]
	}
	return v.Sort == impl.JsonNull
}

// P17, P18, P48, P49: what else is asked for, in which order, and as what it is answered does not matter.
func TestP17P18P48P49(t *testing.T) {
	r := rand.New(rand.NewSource(33))
	less, renamed, turned := 0, 0, 0
	for range 4000 {
		p, rows, a := anyGraph(r)
		got := wantWhole(t, p, rows, a)
		back := slices.Clone(a)
		slices.Reverse(back)
		other := wantWhole(t, p, rows, back)
		if (other.Data.Sort == impl.JsonNull) != (got.Data.Sort == impl.JsonNull) || len(other.Wrongs) != len(got.Wrongs) {
			t.Fatalf("%s: %v, the other way round %v", askByHand(a), got, other)
		}
		if got.Data.Sort == impl.JsonNull {
			continue
		}
		wantAsBefore(t, a, got.Data, other.Data)
		turned++
		if len(a) > 1 {
			wantAsBefore(t, a[:len(a)-1], got.Data, wantWhole(t, p, rows, a[:len(a)-1]).Data)
			less++
		}
		first := deep(a[0])
		first.As = "zzz"
		wantRenamed(t, first, got.Data.Kids[0], wantWhole(t, p, rows, append(sels(first), a[1:]...)).Data)
		twice := append(slices.Clone(a), first)
		if !isAskByHand(twice) {
			continue
		}
		both := wantWhole(t, p, rows, twice).Data
		wantAsBefore(t, a, got.Data, both)
		wantRenamed(t, first, both.Kids[0], both)
		renamed++
	}
	if less < 500 || renamed < 500 || turned < 1000 {
		t.Errorf("too few: %d with less, %d renamed, %d turned", less, renamed, turned)
	}
}

// wantAsBefore fails if a field of an ask is answered in one data otherwise than in another.
func wantAsBefore(t *testing.T, a []impl.Sel, before, now impl.Value) {
	t.Helper()
	for _, s := range a {
		was, ok := under(before, answered(s))
		is, again := under(now, answered(s))
		if !ok || !again || !same(was, is) {
			t.Fatalf("%s: %s was %v, %v, is %v, %v", askByHand(a), answered(s), was, ok, is, again)
		}
	}
}

func wantRenamed(t *testing.T, s impl.Sel, was, now impl.Value) {
	t.Helper()
	if is, ok := under(now, s.As); !ok || !same(was, is) {
		t.Fatalf("%s was %v, as %s it is %v, %v", s.Name, was, s.As, is, ok)
	}
}

// P50: behind AskJoin each outermost field of the first ask is answered by a value of the Sort that it was, or null.
func TestP50(t *testing.T) {
	r := rand.New(rand.NewSource(34))
	joined, more := 0, 0
	for range 8000 {
		p, rows, a := anyGraph(r)
		fields := 1 + r.Intn(12)
		b := fit(r, p, "query", &fields, 1+r.Intn(5))
		aim(r, b)
		both, ok := impl.AskJoin(a, b)
		if !ok {
			continue
		}
		joined++
		alone := wantWhole(t, p, rows, a).Data
		got := wantWhole(t, p, rows, both).Data
		if got.Sort == impl.JsonNull {
			continue
		}
		// What must be there of the first ask must be there of both.
		if alone.Sort == impl.JsonNull {
			t.Fatalf("%s is null, but %s is %v", askByHand(a), askByHand(both), got)
		}
		if len(impl.AskWays(both)) > len(impl.AskWays(a)) {
			more++
		}
		for _, s := range a {
			was, _ := under(alone, answered(s))
			is, there := under(got, answered(s))
			if !there || is.Sort != was.Sort && is.Sort != impl.JsonNull {
				t.Fatalf("%s: %s was %v, is %v", askByHand(both), answered(s), was, is)
			}
		}
	}
	if joined < 2000 || more < 500 {
		t.Errorf("too few: %d joined, %d with more", joined, more)
	}
}

// P51: one that is asked for by a number that no row has is null, without a Wrong, if its field has not Must.
func TestP51(t *testing.T) {
	p, rows := city(t)
	for _, id := range []int{0, 4, 9, 999999} {
		wantAnswer(t, p, rows, "{top("+strconv.Itoa(id)+"){name,lead{name}}}", `{"data":{"top":null}}`)
		wantAnswer(t, p, rows, "{sure("+strconv.Itoa(id)+"){name}}", `{"data":null,"wrong":[{"way":["sure"],"code":2}]}`)
	}
	r := rand.New(rand.NewSource(35))
	asked := 0
	for range 6000 {
		p, rows, a := anyGraph(r)
		for _, s := range a {
			f, _ := lookUp(p, "query", s.Name)
			if isWordOfThree(f.Of) || f.List || f.Must {
				continue
			}
			s.One, s.Id = true, 8
			got := wantWhole(t, p, rows, sels(s))
			if len(got.Wrongs) > 0 || !same(got.Data, object(answered(s), null())) {
				t.Fatalf("%s: %v", askByHand(sels(s)), got)
			}
			asked++
		}
	}
	if asked < 500 {
		t.Errorf("only %d asked", asked)
	}
}

func TestAnswerText(t *testing.T) {
	long := strings.Repeat("y", 100)
	for _, c := range []struct {
		data   impl.Value
		wrongs []impl.Wrong
		want   string
	}{
		{null(), nil, `{"data":null}`},
		{null(), []impl.Wrong{}, `{"data":null}`},
		{object(""), nil, `{"data":{}}`},
		{list(truth(true), truth(false), number(-5), text(`a"\b`)), nil, `{"data":[true,false,-5,"a\"\\b"]}`},
		{object("a,b", list(), object("c", null())), nil, `{"data":{"a":[],"b":{"c":null}}}`},
		{null(), []impl.Wrong{{}}, `{"data":null,"wrong":[{"way":[],"code":0}]}`},
		{null(), []impl.Wrong{{Way: []string{"a", "0", "b"}, Code: 1}, {Way: []string{"c"}, Code: 2}, {Code: 3}}, `{"data":null,"wrong":[{"way":["a","0","b"],"code":1},{"way":["c"],"code":2},{"way":[],"code":3}]}`},
		{number(7), []impl.Wrong{{Way: []string{"", `"`, `\`, "A b"}, Code: -12}}, `{"data":7,"wrong":[{"way":["","\"","\\","A b"],"code":-12}]}`},
		// However great they are.
		{number(1000000), nil, `{"data":1000000}`},
		{number(-9223372036854775808), []impl.Wrong{{Code: 9223372036854775807}}, `{"data":-9223372036854775808,"wrong":[{"way":[],"code":9223372036854775807}]}`},
		{text(long), []impl.Wrong{{Way: []string{long}, Code: 1}}, `{"data":"` + long + `","wrong":[{"way":["` + long + `"],"code":1}]}`},
		{text("\x00\xff\n"), []impl.Wrong{{Way: []string{"\x00\xff\n"}, Code: 1}}, "{\"data\":\"\x00\xff\n\",\"wrong\":[{\"way\":[\"\x00\xff\n\"],\"code\":1}]}"},
		{object(long+",A", null(), null()), nil, `{"data":{"` + long + `":null,"A":null}}`},
		{object("a,a", null(), null()), nil, `{"data":{"a":null,"a":null}}`},
		// Where there is no text of the data, there is none of what went wrong.
		{impl.Value{}, nil, `{"wrong":0}`},
		{impl.Value{}, []impl.Wrong{{Way: []string{"a"}, Code: 1}}, `{"wrong":0}`},
		{bad(), nil, `{"wrong":0}`},
		{impl.Value{Sort: -1}, nil, `{"wrong":0}`},
		{impl.Value{Sort: 8}, nil, `{"wrong":0}`},
		{list(number(1), bad()), nil, `{"wrong":0}`},
		{list(list(list(impl.Value{}))), nil, `{"wrong":0}`},
		{object("a,b", null(), object("c", bad())), []impl.Wrong{{}}, `{"wrong":0}`},
		{object("a"), nil, `{"wrong":0}`},
		{object("", null()), nil, `{"wrong":0}`},
		{object("a,b", null()), nil, `{"wrong":0}`},
		{object("a", null(), null()), nil, `{"wrong":0}`},
		{list(null(), object("a,b", null())), nil, `{"wrong":0}`},
		{object("a", list(object("", null()))), nil, `{"wrong":0}`},
	} {
		if got := impl.AnswerText(impl.Answer{Data: c.data, Wrongs: c.wrongs}); got != c.want {
			t.Errorf("%v, %v: %s, want %s", c.data, c.wrongs, got, c.want)
		}
	}
}

// However deep and however wide the data is.
func TestAnswerTextGreat(t *testing.T) {
	if got := impl.AnswerText(impl.Answer{Data: deepList(2000000)}); got != `{"data":`+strings.Repeat("[", 2000000)+strings.Repeat("]", 2000000)+`}` {
		t.Errorf("deep lists: %.60s", got)
	}
	if got := impl.AnswerText(impl.Answer{Data: list(slices.Repeat([]impl.Value{number(1)}, 1000000)...)}); got != `{"data":[`+strings.Repeat("1,", 999999)+`1]}` {
		t.Errorf("a wide list: %.60s", got)
	}
	line := impl.AnswerText(impl.Answer{Data: deepObject(1000)})
	if want, _ := strict(deepObject(1000)); line != `{"data":`+want+`}` {
		t.Errorf("deep objects: %.60s", line)
	}
	line = impl.AnswerText(impl.Answer{Data: null(), Wrongs: slices.Repeat([]impl.Wrong{{Way: []string{"a"}, Code: 1}}, 100000)})
	if line != `{"data":null,"wrong":[`+strings.Repeat(`{"way":["a"],"code":1},`, 99999)+`{"way":["a"],"code":1}]}` {
		t.Errorf("many wrongs: %.60s", line)
	}
}

// P20: JsonRead of AnswerText, if it is true, has Data under `data`, and as many things as there are Wrongs under `wrong`.
func TestP20(t *testing.T) {
	r := rand.New(rand.NewSource(36))
	read := 0
	for i := range 6000 {
		p, rows, a := anyGraph(r)
		got := impl.WholeAnswer(p, rows, a)
		if i%3 == 0 {
			got.Data = anyValue(r, 4)
		}
		v, ok := impl.JsonRead(impl.AnswerText(got))
		// As a value it has three levels, and a text for each name, of what the limits of a value are.
		if small := impl.JsonOk(list(list(got.Data))) && countByHand(got.Data)+40*len(got.Wrongs) < 500; !ok && small {
			t.Fatalf("%s is not read", impl.AnswerText(got))
		}
		if !ok {
			continue
		}
		read++
		data, there := impl.JsonAt(v, []string{"data"})
		if !there || !same(data, got.Data) {
			t.Fatalf("%s has the data %v, not %v", impl.AnswerText(got), data, got.Data)
		}
		wrong, told := impl.JsonAt(v, []string{"wrong"})
		if told != (len(got.Wrongs) > 0) || len(wrong.Kids) != len(got.Wrongs) {
			t.Fatalf("%s has the wrongs %v, not %v", impl.AnswerText(got), wrong, got.Wrongs)
		}
		for j, w := range got.Wrongs {
			want := object("way,code", list(), number(w.Code))
			for _, name := range w.Way {
				want.Kids[0].Kids = append(want.Kids[0].Kids, text(name))
			}
			if !same(wrong.Kids[j], want) {
				t.Fatalf("%v is told as %v", w, wrong.Kids[j])
			}
		}
	}
	if read < 3000 {
		t.Errorf("only %d read", read)
	}
}
