package tests

import (
	"math/rand"
	"slices"
	"strings"
	"testing"

	"loop.example/portolan/impl"
)

// askAll calls each function of values at a value and a way.
func askAll(v impl.Value, way []string) {
	impl.JsonOk(v)
	impl.JsonWrite(v)
	impl.JsonAt(v, way)
	impl.JsonAt(v, nil)
}

func TestOnceValuesThatHoldThemselves(t *testing.T) {
	kids := make([]impl.Value, 2)
	kids[0], kids[1] = null(), list(kids...)
	kids[1].Kids = kids
	wantValue(t, "a list that holds itself", kids[1], false)
	ring := make([]impl.Value, 1)
	ring[0] = impl.Value{Sort: impl.JsonObj, Names: []string{"a"}, Kids: ring}
	wantValue(t, "an object that holds itself", ring[0], false)
	wide := list(null())
	for range 15 {
		wide = list(slices.Repeat([]impl.Value{wide}, 100)...)
	}
	wantValue(t, "lists that share what they have", wide, false)
	wantValue(t, "a list of millions", impl.Value{Sort: impl.JsonList, Kids: make([]impl.Value, 2000000)}, false)
	wantValue(t, "an object of millions", impl.Value{Sort: impl.JsonObj, Names: make([]string, 2000000), Kids: make([]impl.Value, 2000000)}, false)
	wantValue(t, "a long text", text(strings.Repeat("a", 2000000)), false)
	wantValue(t, "deep lists", deepList(2000000), false)
}

func TestOnceLongTexts(t *testing.T) {
	for _, piece := range []string{"[", "]", "{", `"`, `\`, `"\\`, `{"a":`, "1", "-", "a", " ", "\x00", "\xff", "[1,", "null", "n", "type ", "  ", "\n", "part a\n", "type a\n", "  a int\n", "!"} {
		line := strings.Repeat(piece, 300000)
		wantReadOnlyWritten(t, line)
		wantReadOnlyWritten(t, "["+line)
		wantReadOnlyWritten(t, `"`+line)
		wantReadOnlyWritten(t, `{"`+line)
		wantLine(t, line, 0, impl.PartTooMany)
	}
}

func wantReadOnlyWritten(t *testing.T, line string) {
	t.Helper()
	v, ok := impl.JsonRead(line)
	if ok && impl.JsonWrite(v) != line || !ok && !isNothing(v) {
		t.Errorf("%.40q: %v, %v", line, v, ok)
	}
}

func TestOnceAnyBytes(t *testing.T) {
	r := rand.New(rand.NewSource(7))
	pieces := []string{"part ", "type ", " key ", "  ", " ", "\n", "a", "query", "int", "text", "[", "]", "!", " far", " hidden", " shared", " needs ", "{", "}", `"`, `\`, ":", ",", "-", "0", "12", "null", "true", "\x00", "\xff", "é"}
	for range 100000 {
		var line strings.Builder
		for range r.Intn(14) {
			line.WriteString(pieces[r.Intn(len(pieces))])
		}
		wantReadOnlyWritten(t, line.String())
		wantReadAsWritten(t, line.String())
	}
}

func TestOnceAnyValue(t *testing.T) {
	r := rand.New(rand.NewSource(8))
	for range 30000 {
		v := strangeValue(r, 4)
		ok := impl.JsonOk(v)
		line := impl.JsonWrite(v)
		got, read := impl.JsonRead(line)
		if read != ok || ok && !same(got, v) || !ok && line != "" {
			t.Fatalf("%v: ok %v, written %q, read %v", v, ok, line, read)
		}
		askAll(v, []string{"a", "0", ""})
	}
}

// strangeValue is a value by chance that need not be ok.
func strangeValue(r *rand.Rand, levels int) impl.Value {
	v := anyValue(r, levels)
	switch r.Intn(24) {
	case 0:
		v.Sort = r.Intn(10) - 1
	case 1:
		v.Num = r.Intn(3) - 1
	case 2:
		v.Text = []string{"", "x", "\x00"}[r.Intn(3)]
	case 3:
		v.Names = append(v.Names, []string{"a", "", "A", "q"}[r.Intn(4)])
	case 4:
		v.Kids = append(v.Kids, null())
	}
	for i := range v.Kids {
		if levels > 0 && r.Intn(4) == 0 {
			v.Kids[i] = strangeValue(r, levels-1)
		}
	}
	return v
}

func TestOnceAnyPart(t *testing.T) {
	r := rand.New(rand.NewSource(9))
	for range 30000 {
		p := anyPart(r)
		for range r.Intn(3) {
			breakPart(r, &p)
		}
		fault := impl.PartCheck(p)
		line := impl.PartWrite(p)
		got, read := impl.PartRead(line)
		if (fault.Code == 0) != (line != "") || fault.Code == 0 && (read.Code != 0 || !same(got, p) || line != byHand(p)) {
			t.Fatalf("%v: fault %v, written %q, read %v", p, fault, line, read)
		}
		want, there := lookUp(p, "user", "b")
		field, ok := impl.PartField(p, "user", "b")
		if ok != (there && fault.Code == 0) || ok && !same(field, want) || !ok && !isNothing(field) {
			t.Fatalf("%v: fault %v, field %v, %v", p, fault, field, ok)
		}
	}
	huge := impl.Part{Name: "a", Types: []impl.Type{{Name: "query", Fields: make([]impl.Field, 1000000)}}}
	wantPart(t, "fields", impl.Part{Name: "a", Types: make([]impl.Type, 1000000)}, 6, impl.PartTooMany)
	if got := impl.PartCheck(huge); got != (impl.PartFault{At: 1, Code: impl.PartBadLine}) {
		t.Errorf("many fields: %v", got)
	}
	many := slices.Repeat([]string{"a"}, 1000000)
	wantPart(t, "needs", with(1, impl.Field{Name: "x", Of: "int", Needs: many}), 2, impl.PartBadNeed)
	wantPart(t, "name", impl.Part{Name: strings.Repeat("a", 1000000)}, 0, impl.PartBadLine)
}

func breakPart(r *rand.Rand, p *impl.Part) {
	if len(p.Types) == 0 {
		return
	}
	kind := &p.Types[r.Intn(len(p.Types))]
	word := []string{"", "a", "user", "int", "query", "id", "A", "\n", "x y"}[r.Intn(9)]
	switch r.Intn(8) {
	case 0:
		p.Name = word
	case 1:
		kind.Name = word
	case 2:
		kind.Key = word
	case 3:
		kind.Fields = nil
	case 4:
		kind.Fields = append(kind.Fields, impl.Field{Name: word, Of: "int", Needs: []string{word}})
	case 5:
		kind.Fields = append(kind.Fields, impl.Field{Name: "b", Of: word, Far: true, Shared: r.Intn(2) == 0})
	case 6:
		p.Types = p.Types[1:]
	case 7:
		p.Types = append(p.Types, deep(*kind))
	}
}

func TestOnceNothingIsChanged(t *testing.T) {
	r := rand.New(rand.NewSource(10))
	for i := range 600 {
		v := anyValue(r, 4)
		if i%2 == 0 {
			v = strangeValue(r, 4)
		}
		wantUntouched(t, v, func(v impl.Value) { askAll(v, []string{"a", "0"}) })
		wantUntouched(t, []string{"a", "0", "x"}[:i%4], func(way []string) { impl.JsonAt(object("a", list(null())), way) })
		p := anyPart(r)
		if i%2 == 0 {
			breakPart(r, &p)
		}
		wantUntouched(t, p, func(p impl.Part) {
			impl.PartCheck(p)
			impl.PartWrite(p)
			impl.PartField(p, "user", "z")
			impl.PartField(p, "query", "b")
		})
	}
}

func TestOnceNewMemory(t *testing.T) {
	r := rand.New(rand.NewSource(11))
	for range 500 {
		v := roomy(anyValue(r, 4))
		for _, way := range [][]string{nil, {"a"}, {"0"}, {"_id", "1"}} {
			got, _ := impl.JsonAt(v, way)
			wantApart(t, got, v, way)
		}
		read, _ := impl.JsonRead(impl.JsonWrite(v))
		wantApart(t, read, v)
		p := roomy(anyPart(r))
		part, _ := impl.PartRead(impl.PartWrite(p))
		wantApart(t, part, p)
		for _, kind := range p.Types {
			for _, f := range kind.Fields {
				got, _ := impl.PartField(p, kind.Name, f.Name)
				wantApart(t, got, p)
			}
		}
	}
}

// Two calls with the same arguments answer alike, and what is done to the first answer is not seen in the second.
func TestOnceNothingIsKept(t *testing.T) {
	v, _ := impl.JsonRead(`{"a":[1,{"b":[]}],"c":"x"}`)
	first, _ := impl.JsonAt(v, []string{"a"})
	first.Kids[0], first.Kids[1].Names[0] = null(), "z"
	second, _ := impl.JsonAt(v, []string{"a"})
	if impl.JsonWrite(second) != `[1,{"b":[]}]` {
		t.Errorf("now there is %v", second)
	}
	field, _ := impl.PartField(base(), "user", "rank")
	field.Needs[0] = "zzz"
	p, _ := impl.PartRead(baseText)
	p.Types[1].Fields[3].Needs[0] = "zzz"
	again, f := impl.PartRead(baseText)
	if f.Code != 0 || !same(again, base()) {
		t.Errorf("now it is read as %v, %v", again, f)
	}
}

// The empty list and the nil list are the same value.
func TestOnceEmptyLists(t *testing.T) {
	for _, sort := range []int{impl.JsonNull, impl.JsonBool, impl.JsonInt, impl.JsonText, impl.JsonList, impl.JsonObj} {
		v := impl.Value{Sort: sort}
		empty := impl.Value{Sort: sort, Names: []string{}, Kids: []impl.Value{}}
		if !impl.JsonOk(empty) || impl.JsonWrite(empty) != impl.JsonWrite(v) {
			t.Errorf("sort %d: empty lists matter", sort)
		}
	}
	p := base()
	for i := range p.Types {
		for j := range p.Types[i].Fields {
			if len(p.Types[i].Fields[j].Needs) == 0 {
				p.Types[i].Fields[j].Needs = []string{}
			}
		}
	}
	wantPart(t, "empty lists", p, 0, 0)
	wantPart(t, "empty types", impl.Part{Name: "a", Types: []impl.Type{}}, 0, impl.PartNoRoot)
	wantPart(t, "empty fields", impl.Part{Name: "a", Types: []impl.Type{{Name: "query", Fields: []impl.Field{}}}}, 1, impl.PartBadLine)
}
