package tests

import (
	"fmt"
	"math/rand"
	"slices"
	"strings"
	"testing"

	"loop.example/portolan/impl"
)

// fetchesByHand is what is asked of parts, the steps being done by hand in the order of their places.
func fetchesByHand(v sailing) []impl.Fetch {
	var out []impl.Fetch
	known := object("")
	for i, s := range v.steps {
		var ids []int
		alter(deep(known), s.Way, func(thing impl.Value) impl.Value {
			if id, ok := under(thing, "_id"); s.Type == "query" {
				ids = append(ids, 0)
			} else if ok && id.Sort == impl.JsonInt {
				ids = append(ids, id.Num)
			}
			return thing
		})
		slices.Sort(ids)
		if ids = slices.Compact(ids); len(ids) > 0 {
			out = append(out, impl.Fetch{Step: i, Part: s.Part, Ids: ids})
		}
		known = doneByHand(v.parts[s.Part], v.stores[s.Part], s, known, false)
	}
	return out
}

func TestSailFetches(t *testing.T) {
	for _, c := range []struct {
		what string
		rows []impl.Row
		line string
		want string
	}{
		{"the example", exampleRows(), "{users{name,rank},u:users{rank},n1}", "[{0 0 [0]} {1 1 [1 2]} {2 1 [1 2]} {3 1 [0]}]"},
		{"only query", exampleRows(), "{n1,n0}", "[{0 1 [0]} {1 0 [0]}]"},
		{"each once, ascending", []impl.Row{row("query", 0, "users", list(number(2), number(1), number(2))), exampleRows()[1], exampleRows()[2]}, "{users{rank}}", "[{0 0 [0]} {1 1 [1 2]}]"},
		{"of nobody", []impl.Row{row("query", 0, "users", list(null(), number(9)))}, "{users{rank},n1}", "[{0 0 [0]} {2 1 [0]}]"},
		{"of what is bad", []impl.Row{row("query", 0, "users", bad())}, "{users{rank},n1}", "[{0 0 [0]} {2 1 [0]}]"},
	} {
		v := sailingOf(t, c.rows, c.line, eastTold, westTold)
		if got := fmt.Sprint(impl.SailFetches(v.parts, v.stores, v.a)); got != c.want || got != fmt.Sprint(fetchesByHand(v)) {
			t.Errorf("%s: %s, want %s", c.what, got, c.want)
		}
	}
	// Which rows the part that is asked has does not matter.
	v := sailingOf(t, exampleRows(), "{users{rank}}", eastTold, westTold)
	v.stores[1] = v.stores[1][:1]
	if got := fmt.Sprint(impl.SailFetches(v.parts, v.stores, v.a)); got != "[{0 0 [0]} {1 1 [1 2]}]" {
		t.Error(got)
	}
}

// P69: SailFetches are ascending by Step, each of that step's part, with Ids that ascend; the first is of the step 0, for 0. P70: of parts of a chart, and what each has of a store of All, each of Ids is one row of the step's type in that part's store. P71: SailAll is the same if all steps of which SailFetches tells nothing fail.
func TestP69P70P71(t *testing.T) {
	r := rand.New(rand.NewSource(120))
	idle, asked := 0, 0
	for i := range 3000 {
		v := anySailing(r)
		if i%3 == 0 {
			v = loosen(r, v)
		}
		got := impl.SailFetches(v.parts, v.stores, v.a)
		if !v.hasNeedNamedAsKey() && !same(got, fetchesByHand(v)) {
			t.Fatalf("%v%v, want %v", v, got, fetchesByHand(v))
		}
		if len(got) == 0 || !same(got[0], impl.Fetch{Part: v.steps[0].Part, Ids: []int{0}}) {
			t.Fatalf("%v%v", v, got)
		}
		last := -1
		told := map[int]int{}
		for _, f := range got {
			if f.Step <= last || f.Part != v.steps[f.Step].Part || len(f.Ids) == 0 {
				t.Fatalf("%v%v", v, got)
			}
			last = f.Step
			told[f.Step]++
			for j, id := range f.Ids {
				rows := 0
				for _, one := range v.stores[f.Part] {
					if one.Type == v.steps[f.Step].Type && one.Id == id {
						rows++
					}
				}
				if j > 0 && f.Ids[j-1] >= id || i%3 > 0 && rows != 1 {
					t.Fatalf("%v%v", v, got)
				}
				asked++
			}
		}
		var fails []int
		for place := range v.steps {
			if told[place] == 0 {
				fails = append(fails, place)
			}
		}
		idle += len(fails)
		if one, two := v.sail(t, nil, nil), v.sail(t, somePicks(r), fails); one != two {
			t.Fatalf("%v, fails %v: %s, want %s", v, fails, two, one)
		}
	}
	if idle < 500 || asked < 5000 {
		t.Errorf("%d steps of which nothing is asked, %d numbers", idle, asked)
	}
}

func TestRouteDepthAndParts(t *testing.T) {
	for _, c := range []struct {
		what  string
		steps []impl.Step
		depth int
		parts []int
	}{
		{"none", nil, 0, nil},
		{"one", []impl.Step{{Part: 2}}, 1, []int{2}},
		{"beside each other", []impl.Step{{Part: 2}, {Part: 1}, {Part: 2}}, 1, []int{1, 2}},
		{"behind each other", []impl.Step{{Part: 1}, {After: []int{0}}, {Part: 1, After: []int{1}}}, 3, []int{0, 1}},
		{"behind the deepest", []impl.Step{{}, {After: []int{0}}, {}, {After: []int{2, 1, 0}}}, 3, []int{0}},
		{"the deepest is not the last", []impl.Step{{}, {After: []int{0}}, {After: []int{1}}, {After: []int{0}}}, 3, []int{0}},
		{"behind itself", []impl.Step{{After: []int{0}}}, 1, []int{0}},
		{"behind what comes later", []impl.Step{{After: []int{1}}, {After: []int{0}}}, 2, []int{0}},
		{"behind what is none", []impl.Step{{After: []int{-1, 7}}, {After: []int{-9, 1, 2, 1 << 60}}}, 1, []int{0}},
		{"parts below 0, and great ones", []impl.Step{{Part: 1 << 60}, {Part: -5}, {Part: 0}, {Part: -5}, {Part: -1}}, 1, []int{-5, -1, 0, 1 << 60}},
	} {
		if got := impl.RouteDepth(c.steps); got != c.depth {
			t.Errorf("%s: %d, want %d", c.what, got, c.depth)
		}
		if got := impl.RouteParts(c.steps); !slices.Equal(got, c.parts) {
			t.Errorf("%s: %v, want %v", c.what, got, c.parts)
		}
	}
}

// P72: of steps whose After are ahead of them, RouteDepth is how often SailReady's steps must be done, all at once, till all are. P73: RouteParts is just the parts of steps, ascending, each once.
func TestP72P73(t *testing.T) {
	r := rand.New(rand.NewSource(121))
	deepest := 0
	for i := range 3000 {
		var steps []impl.Step
		if i%2 == 0 {
			steps = anySailing(r).steps
		} else {
			for place := range r.Intn(12) {
				s := impl.Step{Part: r.Intn(7) - 2}
				for range r.Intn(3) {
					if place > 0 {
						s.After = append(s.After, r.Intn(place))
					}
				}
				steps = append(steps, s)
			}
		}
		rounds := 0
		for done := []int(nil); len(done) < len(steps); rounds++ {
			done = append(done, impl.SailReady(steps, done)...)
		}
		if got := impl.RouteDepth(steps); got != rounds {
			t.Fatalf("%v: %d, want %d", steps, got, rounds)
		}
		deepest = max(deepest, rounds)
		got := impl.RouteParts(steps)
		for j, p := range got {
			if j > 0 && got[j-1] >= p || !slices.ContainsFunc(steps, func(s impl.Step) bool { return s.Part == p }) {
				t.Fatalf("%v of %v", got, steps)
			}
		}
		for _, s := range steps {
			if !slices.Contains(got, s.Part) {
				t.Fatalf("%v of %v", got, steps)
			}
		}
	}
	if deepest < 6 {
		t.Errorf("at most %d rounds", deepest)
	}
}

// P74: with only the row of `query` in the stores of all parts that are not among RouteParts, SailAll is the same.
func TestP74(t *testing.T) {
	r := rand.New(rand.NewSource(122))
	cut := 0
	for i := range 3000 {
		v := anySailing(r)
		if i%3 == 0 {
			v = loosen(r, v)
		}
		fails := somePlaces(r, len(v.steps))
		want := v.sail(t, nil, fails)
		asked := impl.RouteParts(v.steps)
		v.stores = slices.Clone(v.stores)
		for i := range v.stores {
			if !slices.Contains(asked, i) {
				v.stores[i] = v.stores[i][:1]
				cut++
			}
		}
		if got := v.sail(t, nil, fails); got != want {
			t.Fatalf("%v: %s, want %s", v, got, want)
		}
	}
	if cut < 500 {
		t.Errorf("only %d not asked", cut)
	}
}

func TestAnswerRead(t *testing.T) {
	for _, line := range []string{
		`{"data":null}`, `{"data":{}}`, `{"data":{"a":[1,"x",null]}}`, `{"data":[1]}`, `{"data":7}`, `{"data":"x"}`,
		`{"data":null,"wrong":[{"way":[],"code":0}]}`, `{"data":{"a":null},"wrong":[{"way":["a","0"],"code":3},{"way":["\"\\","anything at all"],"code":-999999}]}`,
	} {
		got, ok := impl.AnswerRead(line)
		if !ok || impl.AnswerText(got) != line {
			t.Errorf("%s is read as %v, %v", line, got, ok)
		}
	}
	for _, line := range []string{
		"", "null", "{}", "[]", `{"wrong":0}`, `{"data":null,"wrong":0}`, `{"data":null,"wrong":null}`, `{"data":null,"wrong":{}}`, `{"data":null,"wrong":{"a":{"way":["a"],"code":3}}}`, `{"data":null,"wrong":[]}`, `{"wrong":[{"way":["a"],"code":3}]}`, `{"wrong":[{"way":["a"],"code":3}],"data":null}`,
		`{"data":null,"x":1}`, `{"x":null}`, `{"data":null,"wrong":[{"way":["a"],"code":3}],"x":1}`, `{"data":null,"wrongs":[{"way":["a"],"code":3}]}`, `{"dat":null}`,
		`{"data":null,"wrong":[1]}`, `{"data":null,"wrong":[null]}`, `{"data":null,"wrong":[[]]}`, `{"data":null,"wrong":[{}]}`, `{"data":null,"wrong":[{"way":["a"]}]}`, `{"data":null,"wrong":[{"code":3}]}`, `{"data":null,"wrong":[{"code":3,"way":["a"]}]}`, `{"data":null,"wrong":[{"way":["a"],"code":3,"x":1}]}`,
		`{"data":null,"wrong":[{"way":[1],"code":3}]}`, `{"data":null,"wrong":[{"way":["a",null],"code":3}]}`, `{"data":null,"wrong":[{"way":"a","code":3}]}`, `{"data":null,"wrong":[{"way":{},"code":3}]}`, `{"data":null,"wrong":[{"way":{"a":"a"},"code":3}]}`, `{"data":null,"wrong":[{"way":null,"code":3}]}`, `{"data":null,"wrong":[{"way":["a"],"code":"3"}]}`, `{"data":null,"wrong":[{"way":["a"],"code":true}]}`, `{"data":null,"wrong":[{"way":["a"],"code":null}]}`,
		`{"data":null,"wrong":[{"way":["a"],"code":3},{}]}`, `{"data":null,"wrong":[{"way":["a"],"code":1000000}]}`, `{"data":null,"wrong":[{"way":["` + strings.Repeat("a", 25) + `"],"code":3}]}`,
		`{"data":null} `, ` {"data":null}`, `{"data": null}`, `{"data":null}{"data":null}`, `{"data":01}`, `{"data":}`, `{"data":{"A":1}}`, `{"data":null,}`, `{"data":"` + strings.Repeat("a", 25) + `"}`,
		`{"data":` + strings.Repeat("[", 16) + strings.Repeat("]", 16) + `}`,
	} {
		if got, ok := impl.AnswerRead(line); ok || !isNothing(got) {
			t.Errorf("%s is read as %v", line, got)
		}
	}
}

// P75: AnswerRead of AnswerText is the answer, if JsonRead reads that, and there is data; what AnswerRead reads AnswerText writes.
func TestP75(t *testing.T) {
	r := rand.New(rand.NewSource(123))
	read, wrongs, near := 0, 0, 0
	for i := range 6000 {
		var a impl.Answer
		if i%2 == 0 {
			v := anySailing(r)
			a, _ = impl.SailAll(v.parts, v.stores, v.a, nil, somePlaces(r, len(v.steps)))
		} else {
			a.Data = anyValue(r, 3)
			for range r.Intn(4) {
				w := impl.Wrong{Code: []int{0, 1, 2, 3, -1, 999999, 1000000}[r.Intn(7-r.Intn(2))]}
				for range r.Intn(4) {
					w.Way = append(w.Way, []string{"a", "0", "", `"\`, "A b", strings.Repeat("z", 24), strings.Repeat("z", 25), "\n"}[r.Intn(8-2*r.Intn(2))])
				}
				a.Wrongs = append(a.Wrongs, w)
			}
		}
		line := impl.AnswerText(a)
		_, fine := impl.JsonRead(line)
		got, ok := impl.AnswerRead(line)
		if ok != fine || ok && !same(got, a) || !ok && !isNothing(got) {
			t.Fatalf("%s is read as %v, %v", line, got, ok)
		}
		if ok {
			read++
			wrongs += len(a.Wrongs)
		}
		b := []byte(line)
		b[r.Intn(len(b))] = ` 0-"z_[]{},`[r.Intn(11)]
		if got, ok := impl.AnswerRead(string(b)); ok && impl.AnswerText(got) != string(b) || !ok && !isNothing(got) {
			t.Fatalf("%s is read as %v, %v", b, got, ok)
		} else if ok {
			near++
		}
	}
	if read < 3000 || wrongs < 1000 || near < 500 {
		t.Errorf("%d read, %d wrongs, %d near ones", read, wrongs, near)
	}
}

func TestAnswerNone(t *testing.T) {
	for _, c := range []struct {
		data impl.Value
		want int
	}{
		{null(), 1},
		{number(0), 0},
		{impl.Value{}, 0},
		{list(), 0},
		{list(null(), number(1), list(null()), object("a,b", null(), text("null"))), 3},
		{object("a", object("b", list(null(), null()))), 2},
		{bad(), 0},
		{list(bad(), null(), impl.Value{Sort: 99}), 1},
		{impl.Value{Sort: impl.JsonNull, Kids: []impl.Value{null(), number(1)}}, 2},
	} {
		if got := impl.AnswerNone(impl.Answer{Data: c.data, Wrongs: []impl.Wrong{{Code: 1}}}); got != c.want {
			t.Errorf("%v: %d, want %d", c.data, got, c.want)
		}
	}
}

func nullsByHand(v impl.Value) int {
	count := 0
	if v.Sort == impl.JsonNull {
		count++
	}
	for _, kid := range v.Kids {
		count += nullsByHand(kid)
	}
	return count
}

// P76: if there are Wrongs of WholeAnswer, AnswerNone is above 0; it is at most how many values there are.
func TestP76(t *testing.T) {
	r := rand.New(rand.NewSource(124))
	wrongs, nones := 0, 0
	for range 5000 {
		p, rows, a := anyGraph(r)
		answer := impl.WholeAnswer(p, rows, a)
		none := impl.AnswerNone(answer)
		if len(answer.Wrongs) > 0 && none == 0 || none > countByHand(answer.Data) || none != nullsByHand(answer.Data) {
			t.Fatalf("%v: %d", answer, none)
		}
		if len(answer.Wrongs) > 0 {
			wrongs++
		}
		if none == 0 {
			nones++
		}
	}
	if wrongs < 1000 || nones < 300 {
		t.Errorf("%d with Wrongs, %d without a null", wrongs, nones)
	}
}

// movesByHand is an independent account of which fields other parts know.
func movesByHand(old, now []impl.Part) []string {
	before, wrong := chartByHand(old)
	_, other := chartByHand(now)
	if wrong.Code != 0 || other.Code != 0 {
		return nil
	}
	knowers := func(parts []impl.Part, of, field string) string {
		out := ""
		for _, p := range parts {
			if known, _, _ := knowsByHand(p, of, field); known {
				out += " " + p.Name
			}
		}
		return out
	}
	var out []string
	for _, o := range before.Owners {
		one, two := knowers(old, o.Type, o.Field), knowers(now, o.Type, o.Field)
		if two != "" && one != two {
			out = append(out, o.Type+"."+o.Field+":"+one+" >"+two)
		}
	}
	return out
}

// safeByHand is an independent account of what ChartSafe says.
func safeByHand(old, now []impl.Part) bool {
	before, wrong := chartByHand(old)
	after, other := chartByHand(now)
	if wrong.Code != 0 || other.Code != 0 {
		return false
	}
	_, lost := reachByHand(now)
	return lost == "" && len(impl.PartBreaks(before.All, after.All)) == 0
}

func TestChartMovesAndSafe(t *testing.T) {
	for _, c := range []struct {
		what     string
		old, now []string
		moves    string
		safe     bool
	}{
		{"the same", []string{eastTold, westTold}, []string{eastTold, westTold}, "", true},
		{"no parts", nil, []string{eastTold}, "", false},
		{"no parts then", []string{eastTold}, nil, "", false},
		{"no chart", []string{westTold}, []string{eastTold, westTold}, "", false},
		{"no chart then", []string{eastTold, westTold}, []string{westTold}, "", false},
		{"no charts", []string{westTold}, []string{westTold}, "", false},
		{"another name", []string{"a; type query; n int; m text"}, []string{"b; type query; n int; m text"}, "query.n: a > b|query.m: a > b", true},
		{"one moves", []string{"a; type query; n int; m text", "b; type query; k int"}, []string{"a; type query; n int", "b; type query; k int; m text"}, "query.m: a > b", true},
		{"one more knows it", []string{"a; type query; n int", "b; type query; k int"}, []string{"a; type query; n int shared", "b; type query; k int; n int shared"}, "query.n: a > a b", true},
		{"one less knows it", []string{"a; type query; n int shared", "b; type query; k int; n int shared"}, []string{"a; type query; n int", "b; type query; k int; n int far"}, "query.n: a b > a", true},
		{"one is gone", []string{"a; type query; n int; m int"}, []string{"b; type query; n int"}, "query.n: a > b", false},
		{"one is new", []string{"a; type query; n int"}, []string{"a; type query; n int; m int"}, "", true},
		{"one is another thing", []string{"a; type query; n int"}, []string{"b; type query; n text"}, "query.n: a > b", false},
		{"one is a list", []string{"a; type query; n int"}, []string{"b; type query; n [int]"}, "query.n: a > b", false},
		{"one must be there", []string{"a; type query; n int"}, []string{"a; type query; n int!"}, "", true},
		{"one is hidden", []string{"a; type query; n int; m int"}, []string{"a; type query; n int hidden; m int"}, "", false},
		{"one was hidden", []string{"a; type query; n int hidden; m int"}, []string{"a; type query; m int"}, "", true},
		{"all there, but not reached", []string{"a; type query; n u; m u; type u; x int; y int"}, []string{"a; type query; n u; type u; x int", "b; type query; m u; type u; y int"}, "query.m: a > b|u.y: a > b", false},
		{"was not reached", []string{"a; type query; n u; type u; x int", "b; type query; m u; type u; y int"}, []string{"a; type query; n u; m u; type u; x int; y int"}, "query.m: b > a|u.y: b > a", true},
		{"in order of the first chart", []string{"a; type query; n u; type u key id; id int!; x int", "b; type query; m int; type u key id; id int!; y int"}, []string{"c; type query; m int; n u; type u key id; y int; x int; id int!"}, "query.n: a > c|query.m: b > c|u.id: a b > c|u.x: a > c|u.y: b > c", true},
		{"in order of the parts", []string{"a; type query; n int shared", "b; type query; n int shared"}, []string{"b; type query; n int shared", "c; type query; n int shared", "a; type query; n int shared"}, "query.n: a b > b c a", true},
		{"the parts the other way round", []string{"a; type query; n int shared", "b; type query; n int shared"}, []string{"b; type query; n int shared", "a; type query; n int shared"}, "query.n: a b > b a", true},
	} {
		old, now := crew(t, c.old...), crew(t, c.now...)
		if got := strings.Join(impl.ChartMoves(old, now), "|"); got != c.moves || got != strings.Join(movesByHand(old, now), "|") {
			t.Errorf("%s: moves %q, want %q", c.what, got, c.moves)
		}
		if got := impl.ChartSafe(old, now); got != c.safe || got != safeByHand(old, now) {
			t.Errorf("%s: safe %v", c.what, got)
		}
	}
}

// P77: ChartMoves of parts and themselves is nothing; back there are as many.
func TestP77(t *testing.T) {
	r := rand.New(rand.NewSource(125))
	moved := 0
	for range 2000 {
		old, _ := aChart(r)
		now := deep(old)
		switch r.Intn(3) {
		case 0:
			slices.Reverse(now)
		case 1:
			now[0].Name = "other"
		}
		for range r.Intn(2) {
			now = nearCrew(r, now)
		}
		if got := impl.ChartMoves(old, old); len(got) > 0 {
			t.Fatalf("%s: %v", partsByHand(old), got)
		}
		there, back := impl.ChartMoves(old, now), impl.ChartMoves(now, old)
		if len(there) != len(back) || !same(there, movesByHand(old, now)) {
			t.Fatalf("%s and\n%s: %v, %v", partsByHand(old), partsByHand(now), there, back)
		}
		if len(there) > 0 {
			moved++
		}
		if got := impl.ChartSafe(old, now); got != safeByHand(old, now) {
			t.Fatalf("%s and\n%s: safe %v", partsByHand(old), partsByHand(now), got)
		}
	}
	if moved < 200 {
		t.Errorf("only %d moved", moved)
	}
}

// P78: if ChartSafe, an ask without a fault of the first All has none of the second, and RouteMake of the second is true.
func TestP78(t *testing.T) {
	r := rand.New(rand.NewSource(126))
	safe, not := 0, 0
	for range 4000 {
		old, c, a := anyRoute(r)
		now := nearCrew(r, old)
		if !impl.ChartSafe(old, now) {
			not++
			continue
		}
		safe++
		other, _ := impl.ChartMake(now)
		_, ok := impl.RouteMake(now, a)
		if impl.AskCheck(c.All, a).Code != 0 || impl.AskCheck(other.All, a).Code != 0 || !ok {
			t.Fatalf("%s and\n%s: %s", partsByHand(old), partsByHand(now), askByHand(a))
		}
	}
	if safe < 500 || not < 500 {
		t.Errorf("%d safe, %d not", safe, not)
	}
}
