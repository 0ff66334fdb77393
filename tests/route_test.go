package tests

import (
	"math/rand"
	"slices"
	"strings"
	"testing"

	"loop.example/portolan/impl"
)

func TestRouteMake(t *testing.T) {
	for _, c := range []struct {
		what string
		told []string
		line string
		want string
	}{
		{"the example", []string{eastTold, westTold}, "{users{name,rank},n1}", "0 part 0 query at / {users{name,_id:id,_age:age}}\n1 part 1 user at /users {rank} after 0 with age\n2 part 1 query at / {n1}\n"},
		{"the first field's part is asked first", []string{eastTold, westTold}, "{n1,users{name},n0}", "0 part 1 query at / {n1}\n1 part 0 query at / {users{name},n0}\n"},
		{"all of the step's own part", []string{eastTold, westTold}, "{n0,x:users{id,name,years:age},users{age}}", "0 part 0 query at / {n0,x:users{id,name,years:age},users{age}}\n"},
		{"nothing stays but the key", []string{eastTold, westTold}, "{users{rank}}", "0 part 0 query at / {users{_id:id,_age:age}}\n1 part 1 user at /users {rank} after 0 with age\n"},
		{"what is needed is asked for, too", []string{eastTold, westTold}, "{users{age,rank,id}}", "0 part 0 query at / {users{age,id,_id:id,_age:age}}\n1 part 1 user at /users {rank} after 0 with age\n"},
		{"one by its number", []string{"a; type query; u u; type u key id; id int!", "b; type query; m int; type u key id; id int!; x int"}, "{u(7){x},two:u(8){id}}", "0 part 0 query at / {u(7){_id:id},two:u(8){id}}\n1 part 1 u at /u {x} after 0\n"},
		// Another part answers at once.
		{"elsewhere at once", []string{"a; type query; n u; type u key id; id int!", "b; type query; m int; type u key id; id int!; x int; y text"}, "{n{y,id,x}}", "0 part 0 query at / {n{id,_id:id}}\n1 part 1 u at /n {y,x} after 0\n"},
		{"elsewhere under other names", []string{"a; type query; n [u]; type u key no; no int!", "b; type query; m int; type u key no; no int!; x int"}, "{p:n{q:x,x,z:no}}", "0 part 0 query at / {p:n{z:no,_id:no}}\n1 part 1 u at /p {q:x,x} after 0\n"},
		{"of two that know it the one that it was got from", []string{"a; type query; n int; type u key id; id int!; x int shared", "b; type query; m u; type u key id; id int!; x int shared"}, "{m{x}}", "0 part 1 query at / {m{x}}\n"},
		{"of two that know it the first, if it was got elsewhere", []string{"a; type query; n u; type u key id; id int!", "b; type query; m int; type u key id; id int!; x int shared", "c; type query; k int; type u key id; id int!; x int shared"}, "{n{x}}", "0 part 0 query at / {n{_id:id}}\n1 part 1 u at /n {x} after 0\n"},
		{"of two that know query the first, always", []string{"a; type query; n u shared; type u; x int shared", "b; type query; m int; n u shared; type u; x int shared"}, "{m,n{x}}", "0 part 1 query at / {m}\n1 part 0 query at / {n{x}}\n"},
		// Needs.
		{"needs of the step's own part", []string{"a; type query; n u; type u key id; id int!; x int; r int needs x"}, "{n{r}}", "0 part 0 query at / {n{_id:id,_x:x}}\n1 part 0 u at /n {r} after 0 with x\n"},
		{"needs of a third part", []string{"a; type query; n u; type u key id; id int!", "b; type query; m int; type u key id; id int!; x int far; r int needs x", "c; type query; k int; type u key id; id int!; x int"}, "{n{r}}", "0 part 0 query at / {n{_id:id}}\n1 part 2 u at /n {_x:x} after 0\n2 part 1 u at /n {r} after 0 1 with x\n"},
		{"needs that the same further part knows", []string{"a; type query; n u; type u key id; id int!", "b; type query; m int; type u key id; id int!; x int; r int needs x"}, "{n{r}}", "0 part 0 query at / {n{_id:id}}\n1 part 1 u at /n {_x:x} after 0\n2 part 1 u at /n {r} after 0 1 with x\n"},
		{"needs of the first part from a third", []string{"a; type query; n u; type u key id; id int!; x int far; r int needs x", "b; type query; m int; type u key id; id int!; x int"}, "{n{r,id}}", "0 part 0 query at / {n{id,_id:id}}\n1 part 1 u at /n {_x:x} after 0\n2 part 0 u at /n {r} after 0 1 with x\n"},
		{"needs of all kinds, ascending, once", []string{"a; type query; n u; type u key id; id int!; w int", "b; type query; m int; type u key id; id int!; w int far; x int far; y int; r int needs w x y; s int needs id x", "c; type query; k int; type u key id; id int!; x int"}, "{n{s,r,z:r}}", "0 part 0 query at / {n{_id:id,_w:w}}\n1 part 2 u at /n {_x:x} after 0\n2 part 1 u at /n {_y:y} after 0\n3 part 1 u at /n {s,r,z:r} after 0 1 2 with id w x y\n"},
		{"the key is needed under its own name, too", []string{"a; type query; n u; type u key no; no int!", "b; type query; m int; type u key no; no int!; r int needs no"}, "{n{r}}", "0 part 0 query at / {n{_id:no,_no:no}}\n1 part 1 u at /n {r} after 0 with no\n"},
		{"what is needed is hidden", []string{"a; type query; n u; type u key id; id int!; x int hidden", "b; type query; m int; type u key id; id int!; x int far; r int needs x"}, "{n{r}}", "0 part 0 query at / {n{_id:id,_x:x}}\n1 part 1 u at /n {r} after 0 with x\n"},
		{"one need of the first part, of which two know it", []string{"a; type query; n u; type u key id; id int!; x int shared", "b; type query; m int; type u key id; id int!; x int shared; r int needs x"}, "{n{r}}", "0 part 0 query at / {n{_id:id,_x:x}}\n1 part 1 u at /n {r} after 0 with x\n"},
		// What comes to what stays comes once; by the parts, ascending.
		{"two further parts", []string{"a; type query; n u; type u key id; id int!; x int; y int", "b; type query; m int; type u key id; id int!; x int far; r int needs x", "c; type query; k int; type u key id; id int!; x int far; y int far; s int needs x y"}, "{n{s,r,x}}", "0 part 0 query at / {n{x,_id:id,_x:x,_y:y}}\n1 part 1 u at /n {r} after 0 with x\n2 part 2 u at /n {s} after 0 with x y\n"},
		{"two further parts that need what a third one knows", []string{"a; type query; n u; type u key id; id int!", "b; type query; m int; type u key id; id int!; x int far; r int needs x", "c; type query; k int; type u key id; id int!; x int far; s int needs x", "d; type query; l int; type u key id; id int!; x int"}, "{n{s,r}}", "0 part 0 query at / {n{_id:id}}\n1 part 3 u at /n {_x:x} after 0\n2 part 1 u at /n {r} after 0 1 with x\n3 part 3 u at /n {_x:x} after 0\n4 part 2 u at /n {s} after 0 3 with x\n"},
		{"the first part once more, with others", []string{"a; type query; n u; type u key id; id int!; x int; r int needs x", "b; type query; m int; type u key id; id int!; y int"}, "{n{y,r,x}}", "0 part 0 query at / {n{x,_id:id,_x:x}}\n1 part 0 u at /n {r} after 0 with x\n2 part 1 u at /n {y} after 0\n"},
		// Kids, and where steps stand.
		{"kids of a further step", []string{"a; type query; n u; type u key id; id int!; name text; type v key no; no int!; w int", "b; type query; m int; type u key id; id int!; pal u; v [v]; type v key no; no int!"}, "{n{pal{name,pal{id}},v{no,w}}}", "0 part 0 query at / {n{_id:id}}\n1 part 1 u at /n {pal{pal{id},_id:id},v{no,_id:no}} after 0\n2 part 0 u at /n/pal {name} after 1\n3 part 0 v at /n/v {w} after 1\n"},
		{"steps of Kids ahead of those of the field's list", []string{"a; type query; n u; o u; type u key id; id int!; pal u", "b; type query; m int; type u key id; id int!; x int"}, "{n{x,pal{x,pal{x}}},m,o{x}}", "0 part 0 query at / {n{pal{pal{_id:id},_id:id},_id:id},o{_id:id}}\n1 part 1 u at /n/pal/pal {x} after 0\n2 part 1 u at /n/pal {x} after 0\n3 part 1 u at /n {x} after 0\n4 part 1 u at /o {x} after 0\n5 part 1 query at / {m}\n"},
		{"a step's place is ahead of those made for it", []string{"a; type query; n u; type u key id; id int!; x int", "b; type query; m int; type u key id; id int!; pal u; y int", "c; type query; k u; type u key id; id int!; z int"}, "{k{pal{x},z},n{z,y}}", "0 part 2 query at / {k{z,_id:id}}\n1 part 1 u at /k {pal{_id:id}} after 0\n2 part 0 u at /k/pal {x} after 1\n3 part 0 query at / {n{_id:id}}\n4 part 1 u at /n {y} after 3\n5 part 2 u at /n {z} after 3\n"},
		{"back and forth", []string{"a; type query; n u; type u key id; id int!; p u", "b; type query; m int; type u key id; id int!; q u"}, "{n{q{p{q{id}}}}}", "0 part 0 query at / {n{_id:id}}\n1 part 1 u at /n {q{_id:id}} after 0\n2 part 0 u at /n/q {p{_id:id}} after 1\n3 part 1 u at /n/q/p {q{id}} after 2\n"},
		// Nobody answers, a fault, no chart.
		{"nobody answers", []string{"a; type query; n u; type u; x int", "b; type query; m u; type u; y int"}, "{n{x,y}}", ""},
		{"somebody does, if it is got elsewhere", []string{"a; type query; n u; type u; x int", "b; type query; m u; type u; y int"}, "{n{x},m{y}}", "0 part 0 query at / {n{x}}\n1 part 1 query at / {m{y}}\n"},
		{"nobody brings it", []string{"a; type query; n u; type u key id; id int!", "b; type query; m int; type u key id; id int!; x int far; r int needs x", "c; type query; k int; type u; x int"}, "{n{r}}", ""},
		{"nobody answers a kid of a further step", []string{"a; type query; n u; type u key id; id int!; type v; x int", "b; type query; m int; type u key id; id int!; v v; type v; y int"}, "{n{v{x}}}", ""},
		{"nobody answers the last", []string{"a; type query; n u; type u; x int", "b; type query; m u; type u; y int"}, "{m{y},n{x,y}}", ""},
		{"unknown", []string{eastTold, westTold}, "{zz}", ""},
		{"hidden", []string{"a; type query; n int hidden; m int"}, "{m,n}", ""},
		{"bare", []string{eastTold, westTold}, "{users}", ""},
		{"one part alone", []string{eastTold}, "{n0}", "0 part 0 query at / {n0}\n"},
		{"no chart", []string{westTold}, "{n1}", ""},
		{"nothing", nil, "{n}", ""},
	} {
		got, ok := wantRoute(t, crew(t, c.told...), ask(t, c.line))
		if text := impl.RouteText(got); text != c.want || ok != (c.want != "") {
			t.Errorf("%s: %v\n%s, want\n%s", c.what, ok, text, c.want)
		}
	}
	for _, a := range [][]impl.Sel{nil, sels(sel("N")), sels(sel("_id")), sels(sel("n0"), sel("n0"))} {
		if _, ok := wantRoute(t, crew(t, eastTold, westTold), a); ok {
			t.Errorf("%v has steps", a)
		}
	}
}

// A name that is both that of the key and that of a need comes once, as the key.
func TestRouteNeedNamedAsKey(t *testing.T) {
	parts := crew(t, "a; type query; n u; type u key no; no int!; id int; x int", "b; type query; m int; type u key no; no int!; id int far; r int needs id")
	steps, _ := wantRoute(t, parts, ask(t, "{n{r}}"))
	if got := impl.RouteText(steps); got != "0 part 0 query at / {n{_id:no}}\n1 part 1 u at /n {r} after 0 with id\n" {
		t.Error(got)
	}
}

func TestRouteText(t *testing.T) {
	for _, c := range []struct {
		steps []impl.Step
		want  string
	}{
		{nil, ""},
		{[]impl.Step{{}}, "0 part 0  at / {}\n"},
		{[]impl.Step{{Part: -3, Way: []string{"a", "", "B c"}, Type: "x y", Sels: sels(sel("_q:"), impl.Sel{Name: "z", One: true, Id: -5, Kids: sels(sel("k"))}, impl.Sel{Id: 7}), After: []int{7, -1, 7}, Brings: []string{"", "b", "a"}}, {Part: 12}}, "0 part -3 x y at /a//B c {_q:,z(-5){k},} after 7 -1 7 with  b a\n1 part 12  at / {}\n"},
	} {
		if got := impl.RouteText(c.steps); got != c.want || got != routeTextByHand(c.steps) {
			t.Errorf("%q, want %q", got, c.want)
		}
	}
}

// P27: if ReachOk is true, RouteMake is true for each ask without a fault.
func TestP27(t *testing.T) {
	r := rand.New(rand.NewSource(60))
	all, lost := 0, 0
	for range 4000 {
		parts, _, a := anyRoute(r)
		_, ok := wantRoute(t, parts, a)
		reached, _ := impl.ReachOk(parts)
		if reached && !ok {
			t.Fatalf("%s%s has no steps, but all can be answered", partsByHand(parts), askByHand(a))
		}
		if reached {
			all++
		} else if !ok {
			lost++
		}
	}
	if all < 1000 || lost < 50 {
		t.Errorf("%d can be answered, %d asks cannot", all, lost)
	}
}

// askAlong is an ask along a way of names, of all of a chart; false if there is none.
func askAlong(all impl.Part, of string, way []string) ([]impl.Sel, bool) {
	if len(way) == 0 {
		kind := all.Types[slices.IndexFunc(all.Types, func(kind impl.Type) bool { return kind.Name == of })]
		leaf := slices.IndexFunc(kind.Fields, func(f impl.Field) bool { return !f.Hidden && isWordOfThree(f.Of) })
		if leaf < 0 {
			return nil, false
		}
		return sels(sel(kind.Fields[leaf].Name)), true
	}
	f, _ := lookUp(all, of, way[0])
	s := sel(way[0])
	if isWordOfThree(f.Of) {
		return sels(s), true
	}
	var ok bool
	s.Kids, ok = askAlong(all, f.Of, way[1:])
	return sels(s), ok
}

// P28: if ReachOk is false, RouteMake of an ask along the way that it tells is false.
func TestP28(t *testing.T) {
	r := rand.New(rand.NewSource(61))
	asked, deeper := 0, 0
	for asked < 400 {
		parts, c := aChart(r)
		ok, way := impl.ReachOk(parts)
		if ok {
			continue
		}
		a, fits := askAlong(c.All, "query", way)
		if !fits || levelsByHand(a) > 5 {
			continue
		}
		asked++
		if len(way) > 2 {
			deeper++
		}
		if _, ok := wantRoute(t, parts, a); ok {
			t.Fatalf("%s%s has steps, but %v has no answer", partsByHand(parts), askByHand(a), way)
		}
	}
	if deeper < 20 {
		t.Errorf("only %d ways of more than two names", deeper)
	}
}

// askedBy are the fields that a step asks for, with the type that each is of.
func askedBy(p impl.Part, of string, a []impl.Sel) []impl.Owner {
	var out []impl.Owner
	for _, s := range a {
		out = append(out, impl.Owner{Type: of, Field: s.Name})
		f, _ := lookUp(p, of, s.Name)
		out = append(out, askedBy(p, f.Of, s.Kids)...)
	}
	return out
}

// fieldsOfStep is how many fields a step asks for, but those answered as `_id` and `_NEED`.
func fieldsOfStep(a []impl.Sel) int {
	count := 0
	for _, s := range a {
		if !strings.HasPrefix(s.As, "_") {
			count += 1 + fieldsOfStep(s.Kids)
		}
	}
	return count
}

// P30: each step's part knows all that it is asked for; its After are less than its place. P31: the fields of all steps, but those answered as `_id` and `_NEED`, are as many as AskWays of the ask. P53: RouteText has a line for each step.
func TestP30P31P53(t *testing.T) {
	r := rand.New(rand.NewSource(62))
	most, third, again := 0, 0, 0
	for range 3000 {
		parts, c, a := anyRoute(r)
		steps, ok := wantRoute(t, parts, a)
		if !ok {
			continue
		}
		fields := 0
		for i, s := range steps {
			fields += fieldsOfStep(s.Sels)
			for _, o := range askedBy(c.All, s.Type, s.Sels) {
				if known, _, _ := knowsByHand(parts[s.Part], o.Type, o.Field); !known {
					t.Fatalf("%s%s: the step %d asks for %s.%s", partsByHand(parts), askByHand(a), i, o.Type, o.Field)
				}
			}
			for _, ahead := range s.After {
				if ahead < 0 || ahead >= i {
					t.Fatalf("%s: the step %d is behind %v", askByHand(a), i, s.After)
				}
				if steps[ahead].Part == s.Part {
					again++
				}
			}
			if len(s.After) > 1 {
				third++
			}
		}
		if fields != len(impl.AskWays(a)) {
			t.Fatalf("%s%s: %d fields in\n%s", partsByHand(parts), askByHand(a), fields, impl.RouteText(steps))
		}
		if lines := strings.Count(impl.RouteText(steps), "\n"); lines != len(steps) {
			t.Fatalf("%d lines for %d steps", lines, len(steps))
		}
		most = max(most, len(steps))
	}
	if most < 12 || third < 300 || again < 300 {
		t.Errorf("at most %d steps, %d with a third part, %d behind one of their own part", most, third, again)
	}
}

// P32: of one part without Needs there is one step, with the ask as its Sels.
func TestP32(t *testing.T) {
	r := rand.New(rand.NewSource(63))
	charts := 0
	for range 3000 {
		p, a := fitAsk(r)
		for i := range p.Types {
			for j := range p.Types[i].Fields {
				p.Types[i].Fields[j].Needs = nil
				p.Types[i].Fields[j].Far = false
			}
		}
		parts := []impl.Part{p}
		steps, ok := wantRoute(t, parts, a)
		if _, fault := impl.ChartMake(parts); ok != (fault.Code == 0) {
			t.Fatalf("%s%s: %v, but %v", byHand(p), askByHand(a), ok, fault)
		}
		if ok && !same(steps, []impl.Step{{Type: "query", Sels: a}}) {
			t.Fatalf("%s: %v", askByHand(a), steps)
		}
		if ok {
			charts++
		}
	}
	if charts < 1000 {
		t.Errorf("only %d charts", charts)
	}
}

func TestRouteByChance(t *testing.T) {
	r := rand.New(rand.NewSource(64))
	none := 0
	for range 3000 {
		parts, _, a := anyRoute(r)
		for range r.Intn(3) {
			parts = nearCrew(r, parts)
		}
		if r.Intn(4) == 0 {
			a = breakAsk(r, a)
		}
		if _, ok := wantRoute(t, parts, a); !ok {
			none++
		}
	}
	if none < 500 {
		t.Errorf("only %d without steps", none)
	}
}
