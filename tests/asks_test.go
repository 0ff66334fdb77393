package tests

import (
	"math/rand"
	"slices"
	"strings"
	"testing"

	"loop.example/portolan/impl"
)

func TestP10EachWayOnce(t *testing.T) {
	r := rand.New(rand.NewSource(31))
	for range 3000 {
		a := anyAsk(r)
		ways := impl.AskWays(a)
		if !slices.Equal(ways, waysByHand("", a)) || len(firsts(ways)) != len(ways) {
			t.Fatalf("%s: ways %v", askByHand(a), ways)
		}
		for _, way := range ways {
			wantLess(t, a, way)
		}
	}
	for _, c := range []struct{ text, ways string }{
		{"{a}", "a"}, {"{x:a}", "x"}, {"{a{b,c:d},e}", "a a/b a/c e"}, {"{a(1){a{a}},b:a(2){a}}", "a a/a a/a/a b b/a"},
	} {
		if got := impl.AskWays(ask(t, c.text)); strings.Join(got, " ") != c.ways {
			t.Errorf("%s: ways %v", c.text, got)
		}
	}
}

// wantLess fails if an ask without a way has it still, or one behind it, or less than all others that ask for something.
func wantLess(t *testing.T, a []impl.Sel, way string) {
	t.Helper()
	less := impl.AskLess(a, way)
	left := waysByHand("", less)
	if len(less) > 0 && (!isAskByHand(less) || !slices.Equal(impl.AskWays(less), left)) {
		t.Fatalf("%s without %s: %v is not ok", askByHand(a), way, less)
	}
	if want := waysLeft(waysByHand("", a), way); !slices.Equal(left, want) {
		t.Fatalf("%s without %s: left %v, want %v", askByHand(a), way, left, want)
	}
	before, after := headsByHand("", a), headsByHand("", less)
	for _, head := range after {
		if !slices.Contains(before, head) {
			t.Fatalf("%s without %s: %v", askByHand(a), way, less)
		}
	}
}

// headsByHand are all fields with their ways, each written without its Kids.
func headsByHand(ahead string, a []impl.Sel) []string {
	var out []string
	for _, s := range a {
		kids := s.Kids
		s.Kids = nil
		out = append(out, ahead+askByHand(sels(s)))
		out = append(out, headsByHand(ahead+answered(s)+"/", kids)...)
	}
	return out
}

// waysLeft are ways without one and all behind it, and without those of which none behind is left by that.
func waysLeft(ways []string, without string) []string {
	left := slices.DeleteFunc(slices.Clone(ways), func(way string) bool {
		return way == without || strings.HasPrefix(way, without+"/")
	})
	if len(left) == len(ways) {
		return left
	}
	at := strings.LastIndex(without, "/")
	if at < 0 {
		return left
	}
	ahead := without[:at]
	if slices.ContainsFunc(left, func(way string) bool { return strings.HasPrefix(way, ahead+"/") }) {
		return left
	}
	return waysLeft(left, ahead)
}

func TestAskLess(t *testing.T) {
	for _, c := range []struct{ text, way, want string }{
		{"{a,b}", "a", "{b}"}, {"{a,b}", "b", "{a}"}, {"{a}", "a", ""},
		{"{a{b,c:d},e}", "a", "{e}"}, {"{a{b,c:d},e}", "a/b", "{a{c:d},e}"}, {"{a{b,c:d},e}", "a/c", "{a{b},e}"},
		{"{a{b}}", "a/b", ""}, {"{a{b{c}},d}", "a/b/c", "{d}"}, {"{a{b{c},d}}", "a/b/c", "{a{d}}"}, {"{a{b{c}}}", "a/b", ""}, {"{a{b{c{d{e}}}}}", "a/b/c/d/e", ""}, {"{a{b{c{d{e}}},f}}", "a/b/c/d/e", "{a{f}}"},
		{"{x:a(3){b(4)},y:a(5){b,c}}", "y/b", "{x:a(3){b(4)},y:a(5){c}}"}, {"{x:a(3){b(4)},y:a(5){b,c}}", "x/b", "{y:a(5){b,c}}"}, {"{b:a,a:b}", "a", "{b:a}"}, {"{b:a,a:b}", "b", "{a:b}"},
		{"{a{b},b}", "b", "{a{b}}"}, {"{a{b},c{b}}", "c/b", "{a{b}}"},
	} {
		a := ask(t, c.text)
		if got := impl.AskWrite(impl.AskLess(a, c.way)); got != c.want {
			t.Errorf("%s without %s is %s, want %s", c.text, c.way, got, c.want)
		}
		for _, way := range []string{"", "/", "a/", "/a", "a/d", "z", "a//b", "a/b/", "A", "a b", "x:a", "a/b/c/d/e/f", c.text, "a(3)", strings.Repeat("a/", 100000)} {
			if !slices.Contains(waysByHand("", a), way) && !same(impl.AskLess(a, way), a) {
				t.Errorf("%s without %.80q is %v", c.text, way, impl.AskLess(a, way))
			}
		}
	}
	for _, a := range [][]impl.Sel{nil, sels(sel("a"), sel("a")), sels(sel("a"), sel("_")), nested(6), flat(25, 8)} {
		for _, way := range []string{"a", "", "_", "zz"} {
			if got := impl.AskLess(a, way); len(got) > 0 {
				t.Errorf("%v is not ok, but without %q it is %v", a, way, got)
			}
		}
	}
}

// joinByHand is an independent account of two ok asks together.
func joinByHand(a, b []impl.Sel) ([]impl.Sel, bool) {
	out := deep(a)
	for _, s := range b {
		at := -1
		for i := range a {
			if answered(a[i]) == answered(s) {
				at = i
			}
		}
		if at < 0 {
			out = append(out, deep(s))
			continue
		}
		if a[at].Name != s.Name || a[at].One != s.One || a[at].Id != s.Id || len(a[at].Kids) == 0 && len(s.Kids) > 0 || len(a[at].Kids) > 0 && len(s.Kids) == 0 {
			return nil, false
		}
		kids, ok := joinByHand(a[at].Kids, s.Kids)
		if !ok {
			return nil, false
		}
		out[at].Kids = kids
	}
	return out, true
}

func wantJoin(t *testing.T, a, b []impl.Sel) bool {
	t.Helper()
	want, ok := joinByHand(a, b)
	ok = ok && isAskByHand(a) && isAskByHand(b) && isAskByHand(want)
	got, joined := impl.AskJoin(a, b)
	if joined != ok || ok && !same(got, want) || !ok && !isNothing(got) {
		t.Fatalf("%s and %s: %v, %v", askByHand(a), askByHand(b), got, joined)
	}
	if !ok {
		return false
	}
	both := firsts(append(waysByHand("", a), waysByHand("", b)...))
	ways := impl.AskWays(got)
	slices.Sort(both)
	slices.Sort(ways)
	if !slices.Equal(both, ways) {
		t.Fatalf("%s and %s: ways %v", askByHand(a), askByHand(b), ways)
	}
	return true
}

func TestP11AllThatEitherAsks(t *testing.T) {
	r := rand.New(rand.NewSource(32))
	joined := 0
	for range 10000 {
		a, b := anyAsk(r), anyAsk(r)
		if r.Intn(2) == 0 {
			p, of := fitAsk(r)
			fields := 8
			a, b = of, fit(r, p, "query", &fields, 4)
		}
		if r.Intn(2) == 0 {
			ways := waysByHand("", a)
			b = impl.AskLess(a, ways[r.Intn(len(ways))])
		}
		if r.Intn(3) == 0 {
			b = breakAsk(r, deep(b))
		}
		if wantJoin(t, a, b) {
			joined++
		}
		wantJoin(t, b, a)
		wantJoin(t, a, a)
	}
	if joined < 1000 {
		t.Errorf("only %d go together", joined)
	}
}

func TestAskJoin(t *testing.T) {
	for _, c := range []struct{ a, b, want string }{
		{"{a}", "{b}", "{a,b}"}, {"{b}", "{a}", "{b,a}"}, {"{a}", "{a}", "{a}"}, {"{a,b,c}", "{d,b,e,a}", "{a,b,c,d,e}"},
		{"{a{b,c:d},e}", "{f,a{d}}", "{a{b,c:d,d},e,f}"}, {"{a{b{c}}}", "{a{d,b{e,c}}}", "{a{b{c,e},d}}"}, {"{x:a(3){b}}", "{y:a(3){b},x:a(3){c}}", "{x:a(3){b,c},y:a(3){b}}"},
		{"{a(0)}", "{a(0)}", "{a(0)}"}, {"{x:a}", "{a}", "{x:a,a}"}, {"{x:a{b}}", "{y:a}", "{x:a{b},y:a}"},
		// Not the same Name under one name, One, Id, or Kids just on one side.
		{"{x:a}", "{x:b}", ""}, {"{a}", "{a:b}", ""}, {"{a:b}", "{a}", ""}, {"{a}", "{a(0)}", ""}, {"{a(0)}", "{a}", ""}, {"{a(1)}", "{a(2)}", ""}, {"{a(0){b}}", "{a{b}}", ""}, {"{a}", "{a{b}}", ""}, {"{a{b}}", "{a}", ""},
		{"{a{b}}", "{a{b{c}}}", ""}, {"{c,a{x:b}}", "{d,a{x:d}}", ""}, {"{a{b{c(1)}}}", "{a{b{c(2)}}}", ""}, {"{a{b}}", "{c,b,a{b(0)}}", ""},
	} {
		a, b := ask(t, c.a), ask(t, c.b)
		got, ok := impl.AskJoin(a, b)
		if ok != (c.want != "") || impl.AskWrite(got) != c.want || !ok && !isNothing(got) {
			t.Errorf("%s and %s: %v, %v", c.a, c.b, got, ok)
		}
		wantJoin(t, a, b)
		wantJoin(t, b, a)
	}
}

func TestAskJoinLimits(t *testing.T) {
	all := flat(25, 8)
	if !wantJoin(t, all[:12], all[10:24]) || wantJoin(t, all[:12], all[10:25]) {
		t.Error("24 fields together, and 25")
	}
	for _, c := range []struct {
		bytes int
		ok    bool
	}{{400, true}, {401, false}} {
		a := askOf(t, c.bytes)
		if wantJoin(t, a[:12], a[12:]) != c.ok {
			t.Errorf("%d bytes together", c.bytes)
		}
	}
	if !wantJoin(t, nested(5), sels(sel("a", sel("b")))) {
		t.Error("5 levels together")
	}
	good := ask(t, "{a}")
	for _, bad := range [][]impl.Sel{nil, {}, sels(sel("b"), sel("b")), sels(sel("_")), nested(6), flat(25, 8), sels(one("b", -1))} {
		if wantJoin(t, good, bad) || wantJoin(t, bad, good) || wantJoin(t, bad, bad) {
			t.Errorf("%v is joined", bad)
		}
	}
}

func TestAskCost(t *testing.T) {
	p, _ := impl.PartRead(checkText)
	for _, c := range []struct {
		text string
		cost int
	}{
		{"{n}", 2}, {"{n,x:n}", 3}, {"{ns}", 1 + 1 + 3}, {"{u{id}}", 1 + 2}, {"{u(7){id}}", 1 + 2}, {"{u{id,n}}", 1 + 3}, {"{us{id}}", 1 + 1 + 3*2}, {"{n,us{id,v{id}}}", 1 + 1 + 1 + 3*(1+1+2)},
		{"{us{vs{id}}}", 1 + 1 + 3*(1+1+3*2)}, {"{us{vs{vs{vs{id}}}}}", 1 + 1 + 3*(1+1+3*(1+1+3*(1+1+3*2)))}, {"{us{vs{id},n},u{n}}", 1 + 1 + 3*(1+1+3*2+1) + 2},
		{"{z}", 0}, {"{n{id}}", 0}, {"{us}", 0}, {"{us(1){id}}", 0}, {"{us{id},z}", 0},
	} {
		if got := impl.AskCost(p, ask(t, c.text)); got != c.cost {
			t.Errorf("%s costs %d, want %d", c.text, got, c.cost)
		}
	}
	r := rand.New(rand.NewSource(33))
	for range 3000 {
		p, a := fitAsk(r)
		if got := impl.AskCost(p, a); got != costByHand(p, "query", a) {
			t.Fatalf("%s of %q costs %d", askByHand(a), byHand(p), got)
		}
	}
}

func TestP3WrittenAlike(t *testing.T) {
	r := rand.New(rand.NewSource(34))
	for range 20000 {
		a := anyValue(r, 3)
		b := deep(a)
		if r.Intn(3) > 0 {
			b = nearValue(r, b)
		}
		if r.Intn(4) == 0 {
			b = anyValue(r, 3)
		}
		alike := impl.JsonWrite(a) == impl.JsonWrite(b)
		if impl.JsonSame(a, b) != alike || impl.JsonSame(b, a) != alike || !impl.JsonSame(a, deep(a)) {
			t.Fatalf("%s and %s: same %v", impl.JsonWrite(a), impl.JsonWrite(b), impl.JsonSame(a, b))
		}
		count := 1
		for _, kid := range a.Kids {
			count += impl.JsonCount(kid)
		}
		if impl.JsonCount(a) != count {
			t.Fatalf("%s has %d parts", impl.JsonWrite(a), impl.JsonCount(a))
		}
	}
}

// nearValue is an ok value with one thing changed.
func nearValue(r *rand.Rand, v impl.Value) impl.Value {
	if len(v.Kids) > 0 && r.Intn(4) > 0 {
		i := r.Intn(len(v.Kids))
		v.Kids[i] = nearValue(r, v.Kids[i])
		return v
	}
	switch v.Sort {
	case impl.JsonBool:
		v.Num = 1 - v.Num
	case impl.JsonInt:
		v.Num = -v.Num
	case impl.JsonText:
		v.Text = v.Text[:len(v.Text)/2]
	case impl.JsonList:
		v.Kids = append(v.Kids, null())
	case impl.JsonObj:
		for i := range v.Names[:len(v.Names)/2] {
			j := len(v.Names) - 1 - i
			v.Names[i], v.Names[j] = v.Names[j], v.Names[i]
		}
	}
	return v
}

func TestJsonSame(t *testing.T) {
	for _, c := range []struct{ a, b string }{
		{`null`, `false`}, {`true`, `false`}, {`true`, `1`}, {`false`, `0`}, {`1`, `-1`}, {`1`, `"1"`}, {`"a"`, `"b"`}, {`"a"`, `"a "`}, {`""`, `null`},
		{`[]`, `{}`}, {`[]`, `[null]`}, {`[1]`, `[1,1]`}, {`[1,2]`, `[2,1]`}, {`[[1],[]]`, `[[],[1]]`}, {`[[],1]`, `[[1]]`}, {`[1,{"a":null}]`, `[1,{"a":false}]`},
		{`{"a":1}`, `{"b":1}`}, {`{"a":1}`, `{"a":2}`}, {`{"a":1,"b":2}`, `{"b":2,"a":1}`}, {`{"a":1,"b":1}`, `{"b":1,"a":1}`}, {`{"a":1}`, `{"a":1,"b":2}`}, {`{"a":{"b":[1]}}`, `{"a":{"b":[2]}}`},
	} {
		a, _ := impl.JsonRead(c.a)
		b, _ := impl.JsonRead(c.b)
		if !impl.JsonSame(a, a) || !impl.JsonSame(b, b) || impl.JsonSame(a, b) || impl.JsonSame(b, a) {
			t.Errorf("%s and %s", c.a, c.b)
		}
	}
	for _, bad := range []impl.Value{{}, {Sort: 7}, number(1000000), text("\n"), object("a,a", null(), null()), list(impl.Value{}), {Sort: impl.JsonNull, Num: 1}, deepList(17)} {
		if impl.JsonSame(bad, bad) || impl.JsonSame(bad, null()) || impl.JsonSame(null(), bad) || impl.JsonCount(bad) != 0 {
			t.Errorf("%v is not ok, but the same as something", bad)
		}
	}
}

func TestJsonCount(t *testing.T) {
	for _, c := range []struct {
		text  string
		count int
	}{
		{`null`, 1}, {`true`, 1}, {`7`, 1}, {`"a"`, 1}, {`[]`, 1}, {`{}`, 1}, {`[1,2,3]`, 4}, {`{"a":1,"b":[]}`, 3}, {`[1,{"a":null}]`, 4}, {`[[[[]]]]`, 4},
	} {
		v, ok := impl.JsonRead(c.text)
		if !ok || impl.JsonCount(v) != c.count {
			t.Errorf("%s has %d parts", c.text, impl.JsonCount(v))
		}
	}
	full := list(slices.Repeat([]impl.Value{null()}, 599)...)
	more := list(slices.Repeat([]impl.Value{null()}, 600)...)
	if impl.JsonCount(full) != 600 || impl.JsonCount(more) != 0 || !impl.JsonSame(full, full) || impl.JsonSame(more, more) {
		t.Errorf("600 parts: %d, and one more: %d", impl.JsonCount(full), impl.JsonCount(more))
	}
	if impl.JsonCount(deepList(16)) != 16 || impl.JsonCount(deepList(17)) != 0 {
		t.Errorf("16 levels: %d, and one more: %d", impl.JsonCount(deepList(16)), impl.JsonCount(deepList(17)))
	}
}

// breaksByHand is an independent account of what breaks between two ok parts.
func breaksByHand(old, now impl.Part) []string {
	var out []string
	for _, kind := range old.Types {
		for _, f := range kind.Fields {
			g, there := lookUp(now, kind.Name, f.Name)
			if f.Hidden || there && !g.Hidden && g.Of == f.Of && g.List == f.List {
				continue
			}
			out = append(out, kind.Name+"."+f.Name)
		}
	}
	return out
}

func TestP7WhatCanBeAskedStill(t *testing.T) {
	r := rand.New(rand.NewSource(35))
	empty := 0
	for range 5000 {
		old, a := fitAsk(r)
		now := deep(old)
		for range 1 + r.Intn(3) {
			now = nearPart(r, now)
		}
		breaks := impl.PartBreaks(old, now)
		if want := breaksByHand(old, now); !slices.Equal(breaks, want) {
			t.Fatalf("%q to %q: %v, want %v", byHand(old), byHand(now), breaks, want)
		}
		if len(impl.PartBreaks(old, old)) > 0 {
			t.Fatalf("%q breaks by itself: %v", byHand(old), impl.PartBreaks(old, old))
		}
		if len(breaks) > 0 {
			continue
		}
		empty++
		if fault := impl.AskCheck(now, a); !isNothing(fault) {
			t.Fatalf("%q to %q: nothing breaks, but %s has %v", byHand(old), byHand(now), askByHand(a), fault)
		}
	}
	if empty < 1000 {
		t.Errorf("only %d without a break", empty)
	}
}

// nearPart is an ok part with one thing changed.
func nearPart(r *rand.Rand, p impl.Part) impl.Part {
	for {
		q := deep(p)
		kind := &q.Types[r.Intn(len(q.Types))]
		f := &kind.Fields[r.Intn(len(kind.Fields))]
		switch r.Intn(10) {
		case 0:
			f.Hidden = !f.Hidden
		case 1:
			f.List = !f.List
		case 2:
			f.Of = []string{"int", "text", "bool", q.Types[len(q.Types)-1].Name}[r.Intn(4)]
		case 3:
			f.Must = !f.Must
		case 4:
			f.Shared = !f.Shared
		case 5:
			f.Far = !f.Far
		case 6:
			kind.Fields = append(kind.Fields, impl.Field{Name: "more", Of: "int"})
		case 7:
			kind.Fields = kind.Fields[:len(kind.Fields)-1]
		case 8:
			q.Types = append(q.Types, impl.Type{Name: "more", Fields: []impl.Field{{Name: "n", Of: "int"}}})
		case 9:
			slices.Reverse(kind.Fields)
		}
		if impl.PartCheck(q).Code == 0 {
			return q
		}
	}
}

func TestPartBreaks(t *testing.T) {
	old := "part a\ntype query\n  n int\n  us [u]\n  u u\n  h int hidden\ntype u key id\n  id int!\n  v u\n  s int needs id\n"
	for _, c := range []struct{ now, breaks string }{
		{old, ""},
		{"part b\ntype query\n  h text\n  u u!\n  us [u]! shared\n  n int! far\n  more int\ntype w\n  x int\ntype u\n  s int\n  v u! far\n  id int\n", ""},
		{"part a\ntype query\n  n int!\n  us u\n  h int\ntype u\n  id int hidden\n  v u\n  s int\n", "query.us query.u u.id"},
		{"part a\ntype query\n  n text\n  us [w]\n  u [u]\ntype w\n  id int\ntype u\n  id [int]\n  v w\n  s bool\n", "query.n query.us query.u u.id u.v u.s"},
		{"part a\ntype query\n  z int\n", "query.n query.us query.u u.id u.v u.s"},
		{"part a\ntype query\n  n int hidden\n  us [u] hidden\n  u u hidden\ntype u\n  id int\n  v u hidden\n  s int\n", "query.n query.us query.u u.v"},
	} {
		a, _ := impl.PartRead(old)
		b, fault := impl.PartRead(c.now)
		if got := impl.PartBreaks(a, b); fault.Code != 0 || strings.Join(got, " ") != c.breaks {
			t.Errorf("to %q: %v, want %s", c.now, got, c.breaks)
		}
	}
	good, _ := impl.PartRead("part a\ntype query\n  n int\n")
	other, _ := impl.PartRead("part a\ntype query\n  m int\n")
	bad := deep(other)
	bad.Name = "A"
	for _, c := range []struct{ old, now impl.Part }{{good, bad}, {bad, good}, {bad, bad}, {impl.Part{}, good}, {good, impl.Part{}}} {
		if got := impl.PartBreaks(c.old, c.now); len(got) > 0 {
			t.Errorf("%v to %v: %v", c.old, c.now, got)
		}
	}
	if got := impl.PartBreaks(good, other); !slices.Equal(got, []string{"query.n"}) {
		t.Errorf("another field: %v", got)
	}
}
