package tests

import (
	"math/rand"
	"slices"
	"strings"
	"testing"

	"loop.example/portolan/impl"
)

// askAll calls each function of values at a value and a way.
func askAll(v impl.Value, way []string) {
	impl.JsonOk(v)
	impl.JsonWrite(v)
	impl.JsonAt(v, way)
	impl.JsonAt(v, nil)
	impl.JsonSame(v, v)
	impl.JsonSame(v, null())
	impl.JsonSame(list(v), list(v))
	impl.JsonCount(v)
}

// askAllAsks calls each function of asks at a part and two asks.
func askAllAsks(p impl.Part, a, b []impl.Sel) {
	impl.AskOk(a)
	impl.AskWrite(a)
	impl.AskCheck(p, a)
	impl.AskWays(a)
	impl.AskLess(a, "a")
	impl.AskLess(a, "a/b1")
	impl.AskLess(a, "zz")
	impl.AskJoin(a, b)
	impl.AskJoin(b, a)
	impl.AskJoin(a, a)
	impl.AskCost(p, a)
	impl.AskDepth(a)
	impl.AskSize(a)
	impl.AskFields(p, a)
}

func TestOnceValuesThatHoldThemselves(t *testing.T) {
	kids := make([]impl.Value, 2)
	kids[0], kids[1] = null(), list(kids...)
	kids[1].Kids = kids
	wantValue(t, "a list that holds itself", kids[1], false)
	ring := make([]impl.Value, 1)
	ring[0] = impl.Value{Sort: impl.JsonObj, Names: []string{"a"}, Kids: ring}
	wantValue(t, "an object that holds itself", ring[0], false)
	wide := list(null())
	for range 15 {
		wide = list(slices.Repeat([]impl.Value{wide}, 100)...)
	}
	wantValue(t, "lists that share what they have", wide, false)
	wantValue(t, "a list of millions", impl.Value{Sort: impl.JsonList, Kids: make([]impl.Value, 2000000)}, false)
	wantValue(t, "an object of millions", impl.Value{Sort: impl.JsonObj, Names: make([]string, 2000000), Kids: make([]impl.Value, 2000000)}, false)
	wantValue(t, "a long text", text(strings.Repeat("a", 2000000)), false)
	wantValue(t, "deep lists", deepList(2000000), false)
	for _, v := range []impl.Value{kids[1], ring[0], wide, list(wide), deepList(2000000)} {
		if impl.JsonSame(v, v) || impl.JsonCount(v) != 0 {
			t.Errorf("counted: %d", impl.JsonCount(v))
		}
	}
}

func TestOnceAsksThatHoldThemselves(t *testing.T) {
	ring := sels(sel("a"))
	ring[0].Kids = ring
	wantHuge(t, "a list that holds itself", ring)
	two := sels(sel("a"), sel("b"))
	two[0].Kids, two[1].Kids = two, two
	wantHuge(t, "a list that holds itself twice", two)
	wide := sels(sel("a"))
	for range 15 {
		wide = slices.Repeat(sels(sel("a", wide...)), 100)
	}
	wantHuge(t, "lists that share what they have", wide)
	wantHuge(t, "millions of fields", make([]impl.Sel, 2000000))
	wantHuge(t, "millions of Kids", sels(impl.Sel{Name: "a", Kids: make([]impl.Sel, 2000000)}))
	wantHuge(t, "many levels", nested(2000000))
	long := strings.Repeat("a", 2000000)
	wantHuge(t, "a long name", sels(sel(long)))
	wantHuge(t, "a long as", sels(impl.Sel{As: long, Name: "a"}))
	// Kids may be shared as long as there is room for each.
	kids := sels(sel("a"), sel("b"))
	wantAsk(t, "shared Kids", sels(sel("a", kids...), sel("b", kids...), sel("c", kids...)), true)
}

// wantHuge fails if an ask that is far too great to be written is taken for one.
func wantHuge(t *testing.T, what string, a []impl.Sel) {
	t.Helper()
	askAllAsks(base(), a, sels(sel("a")))
	if impl.AskOk(a) || impl.AskWrite(a) != "" || len(impl.AskWays(a)) > 0 || len(impl.AskLess(a, "a")) > 0 || impl.AskSize(a) != 0 || impl.AskDepth(a) != 0 {
		t.Errorf("%s: an ask", what)
	}
	if got, ok := impl.AskJoin(a, sels(sel("z"))); ok || len(got) > 0 {
		t.Errorf("%s: joined", what)
	}
	if got, ok := impl.AskJoin(sels(sel("z")), a); ok || len(got) > 0 {
		t.Errorf("%s: joined", what)
	}
	wantUnfit(t, what, base(), a)
}

func TestOnceLongTexts(t *testing.T) {
	for _, piece := range []string{"[", "]", "{", `"`, `\`, `"\\`, `{"a":`, "1", "-", "a", " ", "\x00", "\xff", "[1,", "null", "n", "type ", "  ", "\n", "part a\n", "type a\n", "  a int\n", "!", "{a", "{a,", "{a}", "@f", "{@f};f", ";f{@f}", ";", "a(", "($0)", "a:", "9"} {
		line := strings.Repeat(piece, 300000)
		wantReadOnlyWritten(t, line)
		wantReadOnlyWritten(t, "["+line)
		wantReadOnlyWritten(t, `"`+line)
		wantReadOnlyWritten(t, `{"`+line)
		wantLine(t, line, 0, impl.PartTooMany)
		for _, whole := range []string{line, "{" + line, "{a" + line + "}", "{a(" + line + ")}", "{a};f" + line, "{@f};f" + line} {
			wantAskText(t, whole, false)
			if got, ok := impl.AskExpand(whole, []int{1}); ok || !isNothing(got) {
				t.Errorf("%.40q is expanded", whole)
			}
			// As much of it as may be read at all.
			wantAskAsWritten(t, whole[:400])
			wantAsByText(t, whole[:400], []int{1})
		}
	}
}

// A text of many levels must not be gone down to its end: there is not as much stack.
func TestOnceDeepTexts(t *testing.T) {
	deepest := strings.Repeat("{a", 8000000)
	for _, line := range []string{deepest, "{@f};f" + deepest, deepest + ";f{a}"} {
		wantAskText(t, line, false)
		if got, ok := impl.AskExpand(line, nil); ok || !isNothing(got) {
			t.Errorf("%.20q is expanded", line)
		}
	}
}

func wantReadOnlyWritten(t *testing.T, line string) {
	t.Helper()
	v, ok := impl.JsonRead(line)
	if ok && impl.JsonWrite(v) != line || !ok && !isNothing(v) {
		t.Errorf("%.40q: %v, %v", line, v, ok)
	}
}

func TestOnceAnyBytes(t *testing.T) {
	r := rand.New(rand.NewSource(7))
	pieces := []string{"part ", "type ", " key ", "  ", " ", "\n", "a", "query", "int", "text", "[", "]", "!", " far", " hidden", " shared", " needs ", "{", "}", `"`, `\`, ":", ",", "-", "0", "12", "null", "true", "\x00", "\xff", "é"}
	asks := []string{"{", "{", "}", "}", ",", ",", ":", "(", ")", "a", "b", "f", "g", "@", "@f", "@g", "$0", "$1", "$", ";", ";f{", ";g{", "(0)", "($0)", "7", "\x00", " "}
	for range 100000 {
		var line strings.Builder
		for range r.Intn(14) {
			line.WriteString(pieces[r.Intn(len(pieces))])
		}
		wantReadOnlyWritten(t, line.String())
		wantReadAsWritten(t, line.String())
		line.Reset()
		line.WriteString("{"[:r.Intn(2)])
		for range r.Intn(14) {
			line.WriteString(asks[r.Intn(len(asks))])
		}
		wantAskAsWritten(t, line.String())
		wantAsByText(t, line.String(), []int{3, 1000000})
	}
}

func TestOnceAnyAsk(t *testing.T) {
	r := rand.New(rand.NewSource(12))
	for range 20000 {
		p, a := fitAsk(r)
		b := anyAsk(r)
		for range r.Intn(4) {
			a, b = breakAsk(r, deep(a)), breakAsk(r, deep(b))
		}
		for range r.Intn(2) {
			breakPart(r, &p)
		}
		askAllAsks(p, a, b)
		if impl.PartCheck(p).Code != 0 {
			wantUnfit(t, "by chance", p, a)
		}
		q := anyPart(r)
		breakPart(r, &q)
		if breaks := impl.PartBreaks(p, q); len(breaks) > 0 && (impl.PartCheck(p).Code != 0 || impl.PartCheck(q).Code != 0) {
			t.Fatalf("%v to %v: %v", p, q, breaks)
		}
	}
}

func TestOnceAnyValue(t *testing.T) {
	r := rand.New(rand.NewSource(8))
	for range 30000 {
		v := strangeValue(r, 4)
		ok := impl.JsonOk(v)
		line := impl.JsonWrite(v)
		got, read := impl.JsonRead(line)
		if read != ok || ok && !same(got, v) || !ok && line != "" {
			t.Fatalf("%v: ok %v, written %q, read %v", v, ok, line, read)
		}
		askAll(v, []string{"a", "0", ""})
	}
}

// strangeValue is a value by chance that need not be ok.
func strangeValue(r *rand.Rand, levels int) impl.Value {
	v := anyValue(r, levels)
	switch r.Intn(24) {
	case 0:
		v.Sort = r.Intn(10) - 1
	case 1:
		v.Num = r.Intn(3) - 1
	case 2:
		v.Text = []string{"", "x", "\x00"}[r.Intn(3)]
	case 3:
		v.Names = append(v.Names, []string{"a", "", "A", "q"}[r.Intn(4)])
	case 4:
		v.Kids = append(v.Kids, null())
	}
	for i := range v.Kids {
		if levels > 0 && r.Intn(4) == 0 {
			v.Kids[i] = strangeValue(r, levels-1)
		}
	}
	return v
}

func TestOnceAnyPart(t *testing.T) {
	r := rand.New(rand.NewSource(9))
	for range 30000 {
		p := anyPart(r)
		for range r.Intn(3) {
			breakPart(r, &p)
		}
		fault := impl.PartCheck(p)
		line := impl.PartWrite(p)
		got, read := impl.PartRead(line)
		if (fault.Code == 0) != (line != "") || fault.Code == 0 && (read.Code != 0 || !same(got, p) || line != byHand(p)) {
			t.Fatalf("%v: fault %v, written %q, read %v", p, fault, line, read)
		}
		want, there := lookUp(p, "user", "b")
		field, ok := impl.PartField(p, "user", "b")
		if ok != (there && fault.Code == 0) || ok && !same(field, want) || !ok && !isNothing(field) {
			t.Fatalf("%v: fault %v, field %v, %v", p, fault, field, ok)
		}
	}
	huge := impl.Part{Name: "a", Types: []impl.Type{{Name: "query", Fields: make([]impl.Field, 1000000)}}}
	wantPart(t, "fields", impl.Part{Name: "a", Types: make([]impl.Type, 1000000)}, 6, impl.PartTooMany)
	if got := impl.PartCheck(huge); got != (impl.PartFault{At: 1, Code: impl.PartBadLine}) {
		t.Errorf("many fields: %v", got)
	}
	many := slices.Repeat([]string{"a"}, 1000000)
	wantPart(t, "needs", with(1, impl.Field{Name: "x", Of: "int", Needs: many}), 2, impl.PartBadNeed)
	wantPart(t, "name", impl.Part{Name: strings.Repeat("a", 1000000)}, 0, impl.PartBadLine)
}

func breakPart(r *rand.Rand, p *impl.Part) {
	if len(p.Types) == 0 {
		return
	}
	kind := &p.Types[r.Intn(len(p.Types))]
	word := []string{"", "a", "user", "int", "query", "id", "A", "\n", "x y"}[r.Intn(9)]
	switch r.Intn(8) {
	case 0:
		p.Name = word
	case 1:
		kind.Name = word
	case 2:
		kind.Key = word
	case 3:
		kind.Fields = nil
	case 4:
		kind.Fields = append(kind.Fields, impl.Field{Name: word, Of: "int", Needs: []string{word}})
	case 5:
		kind.Fields = append(kind.Fields, impl.Field{Name: "b", Of: word, Far: true, Shared: r.Intn(2) == 0})
	case 6:
		p.Types = p.Types[1:]
	case 7:
		p.Types = append(p.Types, deep(*kind))
	}
}

func TestOnceNothingIsChanged(t *testing.T) {
	r := rand.New(rand.NewSource(10))
	for i := range 600 {
		v := anyValue(r, 4)
		if i%2 == 0 {
			v = strangeValue(r, 4)
		}
		wantUntouched(t, v, func(v impl.Value) { askAll(v, []string{"a", "0"}) })
		wantUntouched(t, []string{"a", "0", "x"}[:i%4], func(way []string) { impl.JsonAt(object("a", list(null())), way) })
		p := anyPart(r)
		if i%2 == 0 {
			breakPart(r, &p)
		}
		wantUntouched(t, p, func(p impl.Part) {
			impl.PartCheck(p)
			impl.PartWrite(p)
			impl.PartField(p, "user", "z")
			impl.PartField(p, "query", "b")
			impl.PartBreaks(p, p)
			impl.PartBreaks(p, base())
			impl.PartBreaks(base(), p)
		})
	}
}

// twoAsks are arguments of a call, told as one.
type twoAsks struct {
	A, B   []impl.Sel
	P      impl.Part
	Values []int
}

func TestOnceNothingOfAsksIsChanged(t *testing.T) {
	r := rand.New(rand.NewSource(13))
	for i := range 2000 {
		p, a := fitAsk(r)
		ways := waysByHand("", a)
		b := impl.AskLess(a, ways[len(ways)-1])
		if i%4 == 0 {
			b = anyAsk(r)
		}
		if i%3 == 0 {
			a = breakAsk(r, deep(a))
		}
		wantUntouched(t, twoAsks{A: a, B: b, P: p, Values: []int{1, 2}}, func(x twoAsks) {
			askAllAsks(x.P, x.A, x.B)
			for _, way := range ways {
				impl.AskLess(x.A, way)
			}
			impl.AskExpand("{a($0){@f},b($1){@f}};f{c($1)}", x.Values)
			impl.AskExpand("{a($2)}", x.Values)
		})
	}
}

func TestOnceNewMemory(t *testing.T) {
	r := rand.New(rand.NewSource(11))
	for range 500 {
		v := roomy(anyValue(r, 4))
		for _, way := range [][]string{nil, {"a"}, {"0"}, {"_id", "1"}} {
			got, _ := impl.JsonAt(v, way)
			wantApart(t, got, v, way)
		}
		read, _ := impl.JsonRead(impl.JsonWrite(v))
		wantApart(t, read, v)
		p := roomy(anyPart(r))
		part, _ := impl.PartRead(impl.PartWrite(p))
		wantApart(t, part, p)
		for _, kind := range p.Types {
			for _, f := range kind.Fields {
				got, _ := impl.PartField(p, kind.Name, f.Name)
				wantApart(t, got, p)
			}
		}
	}
}

func TestOnceNewMemoryOfAsks(t *testing.T) {
	r := rand.New(rand.NewSource(14))
	for range 1000 {
		part, of := fitAsk(r)
		x := roomy(twoAsks{A: of, B: anyAsk(r), P: part, Values: []int{1, 2}})
		read, _ := impl.AskRead(impl.AskWrite(x.B))
		wantApart(t, read, x)
		wantApart(t, impl.AskWays(x.A), x)
		for _, way := range append(waysByHand("", x.B), "zz") {
			wantApart(t, impl.AskLess(x.B, way), x)
		}
		ways := waysByHand("", x.A)
		some := roomy(impl.AskLess(x.A, ways[r.Intn(len(ways))]))
		for _, pair := range [][2][]impl.Sel{{x.A, x.B}, {x.B, x.A}, {x.A, x.A}, {x.A, some}, {some, x.A}} {
			joined, _ := impl.AskJoin(pair[0], pair[1])
			wantApart(t, joined, x, some)
		}
		wantApart(t, impl.AskFields(x.P, x.A), x)
		wantApart(t, impl.AskCheck(x.P, x.B), x)
		wantApart(t, impl.PartBreaks(x.P, base()), x)
		own := "{a{@f},b{@f,d{@g}},@g};f{c{@g},x:c($0)};g{e{h},i}"
		expanded, ok := impl.AskExpand(own, x.Values)
		if !ok {
			t.Fatalf("%s is not expanded", own)
		}
		wantApart(t, expanded, x)
	}
}

// Two calls with the same arguments answer alike, and what is done to the first answer is not seen in the second.
func TestOnceNothingIsKept(t *testing.T) {
	v, _ := impl.JsonRead(`{"a":[1,{"b":[]}],"c":"x"}`)
	first, _ := impl.JsonAt(v, []string{"a"})
	first.Kids[0], first.Kids[1].Names[0] = null(), "z"
	second, _ := impl.JsonAt(v, []string{"a"})
	if impl.JsonWrite(second) != `[1,{"b":[]}]` {
		t.Errorf("now there is %v", second)
	}
	field, _ := impl.PartField(base(), "user", "rank")
	field.Needs[0] = "zzz"
	p, _ := impl.PartRead(baseText)
	p.Types[1].Fields[3].Needs[0] = "zzz"
	again, f := impl.PartRead(baseText)
	if f.Code != 0 || !same(again, base()) {
		t.Errorf("now it is read as %v, %v", again, f)
	}
	a := ask(t, "{a{b,c},d}")
	less := impl.AskLess(a, "a/c")
	less[0].Kids[0].Name, less[1].Name = "zzz", "zzz"
	joined, _ := impl.AskJoin(a, ask(t, "{a{e},f{g}}"))
	joined[0].Kids[0].Name, joined[2].Kids[0].Name = "zzz", "zzz"
	expanded, _ := impl.AskExpand("{a{@f},b{@f}};f{c{d}}", nil)
	expanded[0].Kids[0].Kids[0].Name = "zzz"
	if impl.AskWrite(expanded) != "{a{c{zzz}},b{c{d}}}" || impl.AskWrite(a) != "{a{b,c},d}" {
		t.Errorf("now there is %v, and %v", expanded, a)
	}
	if got, _ := impl.AskExpand("{a{@f},b{@f}};f{c{d}}", nil); impl.AskWrite(got) != "{a{c{d}},b{c{d}}}" {
		t.Errorf("now it is expanded to %v", got)
	}
}

// The empty list and the nil list are the same value.
func TestOnceEmptyLists(t *testing.T) {
	for _, sort := range []int{impl.JsonNull, impl.JsonBool, impl.JsonInt, impl.JsonText, impl.JsonList, impl.JsonObj} {
		v := impl.Value{Sort: sort}
		empty := impl.Value{Sort: sort, Names: []string{}, Kids: []impl.Value{}}
		if !impl.JsonOk(empty) || impl.JsonWrite(empty) != impl.JsonWrite(v) {
			t.Errorf("sort %d: empty lists matter", sort)
		}
	}
	empty := sels(sel("a", sel("b")), sel("c"))
	empty[0].Kids[0].Kids, empty[1].Kids = []impl.Sel{}, []impl.Sel{}
	wantAsk(t, "empty Kids", empty, true)
	part, _ := impl.PartRead(checkText)
	bare := sels(sel("n"), sel("us"))
	bare[0].Kids, bare[1].Kids = []impl.Sel{}, []impl.Sel{}
	if got := impl.AskCheck(part, bare); got.Code != impl.AskBare || !slices.Equal(got.Way, []string{"us"}) {
		t.Errorf("empty Kids: %v", got)
	}
	if got, ok := impl.AskJoin(sels(sel("a")), sels(impl.Sel{Name: "a", Kids: []impl.Sel{}})); !ok || impl.AskWrite(got) != "{a}" {
		t.Errorf("empty Kids: %v, %v", got, ok)
	}
	p := base()
	for i := range p.Types {
		for j := range p.Types[i].Fields {
			if len(p.Types[i].Fields[j].Needs) == 0 {
				p.Types[i].Fields[j].Needs = []string{}
			}
		}
	}
	wantPart(t, "empty lists", p, 0, 0)
	wantPart(t, "empty types", impl.Part{Name: "a", Types: []impl.Type{}}, 0, impl.PartNoRoot)
	wantPart(t, "empty fields", impl.Part{Name: "a", Types: []impl.Type{{Name: "query", Fields: []impl.Field{}}}}, 1, impl.PartBadLine)
}
