package tests

import (
	"math/rand"
	"slices"
	"strings"
	"testing"

	"loop.example/portolan/impl"
)

// baseText has each thing that a part may say: lists, marks, a key, needs, types of types.
const baseText = "part base\n" +
	"type query\n  n int\n  us [user]!\n  u user hidden\n" +
	"type user key id\n  id int! shared\n  age int far\n  name text!\n  rank int hidden needs age id\n  item [item]! hidden shared\n" +
	"type item key no\n  no int!\n  w int\n  sum int shared needs w\n  ok bool far hidden\n"

// base is the part of baseText, made by hand.
func base() impl.Part {
	return impl.Part{Name: "base", Types: []impl.Type{
		{Name: "query", Fields: []impl.Field{
			{Name: "n", Of: "int"},
			{Name: "us", Of: "user", List: true, Must: true},
			{Name: "u", Of: "user", Hidden: true},
		}},
		{Name: "user", Key: "id", Fields: []impl.Field{
			{Name: "id", Of: "int", Must: true, Shared: true},
			{Name: "age", Of: "int", Far: true},
			{Name: "name", Of: "text", Must: true},
			{Name: "rank", Of: "int", Hidden: true, Needs: []string{"age", "id"}},
			{Name: "item", Of: "item", List: true, Must: true, Hidden: true, Shared: true},
		}},
		{Name: "item", Key: "no", Fields: []impl.Field{
			{Name: "no", Of: "int", Must: true},
			{Name: "w", Of: "int"},
			{Name: "sum", Of: "int", Shared: true, Needs: []string{"w"}},
			{Name: "ok", Of: "bool", Far: true, Hidden: true},
		}},
	}}
}

// with is the base with more fields in the type at a place.
func with(place int, more ...impl.Field) impl.Part {
	p := base()
	p.Types[place].Fields = append(p.Types[place].Fields, more...)
	return p
}

// changed is the base, changed.
func changed(change func(p *impl.Part)) impl.Part {
	p := base()
	change(&p)
	return p
}

// wantPart fails if a part has another fault than told, or if it is written or asked for its fields otherwise than that says.
func wantPart(t *testing.T, what string, p impl.Part, at, code int) {
	t.Helper()
	got := impl.PartCheck(p)
	if got.At != at || got.Code != code {
		t.Errorf("%s: fault %v, want {%d %d}", what, got, at, code)
	}
	if (impl.PartWrite(p) != "") != (code == 0) {
		t.Errorf("%s: written %q", what, impl.PartWrite(p))
	}
	for _, kind := range p.Types {
		for _, f := range kind.Fields {
			found, ok := impl.PartField(p, kind.Name, f.Name)
			if ok != (code == 0) || ok && !same(found, f) || !ok && !isNothing(found) {
				t.Errorf("%s: %s.%s is %v, %v", what, kind.Name, f.Name, found, ok)
			}
		}
	}
}

// wantLine fails if a text is refused otherwise than told, or read if a code is told.
func wantLine(t *testing.T, line string, at, code int) {
	t.Helper()
	p, got := impl.PartRead(line)
	if got.At != at || got.Code != code {
		t.Errorf("%.120q: fault %v, want {%d %d}", line, got, at, code)
	}
	if got.Code != 0 && !isNothing(p) {
		t.Errorf("%.120q: refused, but with %v", line, p)
	}
	if got.Code == 0 && impl.PartWrite(p) != line {
		t.Errorf("%.120q: read as %v", line, p)
	}
}

// sized is a part that is written in just so many bytes, of about 1340 to 1600.
func sized(t *testing.T, bytes int) impl.Part {
	t.Helper()
	p := impl.Part{Name: "abcdefgh"}
	for i := range 5 {
		kind := impl.Type{Name: "tttttt" + string(rune('0'+i)), Key: "kkkkkkk0"}
		if i == 0 {
			kind.Name, kind.Key = "query", ""
		}
		for j := range 8 {
			kind.Fields = append(kind.Fields, impl.Field{Name: "kkkkkkk" + string(rune('0'+j)), Of: "tttttt1", List: true, Must: true, Hidden: true, Shared: true})
		}
		if i > 0 {
			kind.Fields[0] = impl.Field{Name: "kkkkkkk0", Of: "int", Must: true, Shared: true}
		}
		p.Types = append(p.Types, kind)
	}
	more := len(byHand(p)) - bytes
	for i := range p.Types {
		for j := 1; j < 8; j++ {
			f := &p.Types[i].Fields[j]
			for len(f.Name) > 2 && more > 0 {
				f.Name = f.Name[1:]
				more--
			}
		}
	}
	if len(byHand(p)) != bytes {
		t.Fatalf("no part of %d bytes, but of %d", bytes, len(byHand(p)))
	}
	return p
}

// byHand writes a part as the document says, whether it is ok or not.
func byHand(p impl.Part) string {
	lines := []string{"part " + p.Name}
	for _, kind := range p.Types {
		line := "type " + kind.Name
		if kind.Key != "" {
			line += " key " + kind.Key
		}
		lines = append(lines, line)
		for _, f := range kind.Fields {
			lines = append(lines, "  "+fieldByHand(f))
		}
	}
	return strings.Join(lines, "\n") + "\n"
}

func fieldByHand(f impl.Field) string {
	of := f.Of
	if f.List {
		of = "[" + of + "]"
	}
	if f.Must {
		of += "!"
	}
	words := []string{f.Name, of}
	for _, m := range []struct {
		is   bool
		word string
	}{{f.Far, "far"}, {f.Hidden, "hidden"}, {f.Shared, "shared"}, {len(f.Needs) > 0, "needs"}} {
		if m.is {
			words = append(words, m.word)
		}
	}
	return strings.Join(append(words, f.Needs...), " ")
}

// anyPart is an ok part by chance.
func anyPart(r *rand.Rand) impl.Part {
	names := []string{"query", "user", "item", "a", "abcdefgh"}
	p := impl.Part{Name: []string{"p", "query", "a1_", "zzzzzzzz"}[r.Intn(4)]}
	for i := range 1 + r.Intn(5) {
		p.Types = append(p.Types, impl.Type{Name: names[i]})
	}
	for i := range p.Types {
		kind := &p.Types[i]
		if i > 0 && r.Intn(3) > 0 {
			kind.Key = "id"
			kind.Fields = append(kind.Fields, impl.Field{Name: "id", Of: "int", Must: true, Shared: r.Intn(2) == 0})
		}
		for _, name := range []string{"b", "c1", "d_d", "user", "efghijkl", "z"}[:1+r.Intn(6)] {
			kind.Fields = append(kind.Fields, anyField(r, name, p.Types))
		}
		addNeeds(r, kind)
	}
	return p
}

func anyField(r *rand.Rand, name string, types []impl.Type) impl.Field {
	f := impl.Field{Name: name, Of: []string{"int", "int", "text", "bool"}[r.Intn(4)]}
	if of := r.Intn(len(types) + 2); of > 0 && of < len(types) {
		f.Of = types[of].Name
	}
	f.List, f.Must, f.Hidden = r.Intn(3) == 0, r.Intn(3) == 0, r.Intn(3) == 0
	f.Far = r.Intn(4) == 0
	f.Shared = !f.Far && r.Intn(3) == 0
	return f
}

// addNeeds gives the last field of a type that has a key Needs, where it may have some.
func addNeeds(r *rand.Rand, kind *impl.Type) {
	last := &kind.Fields[len(kind.Fields)-1]
	if kind.Key == "" || last.Of != "int" || last.List || last.Must || last.Far {
		return
	}
	for _, f := range kind.Fields[:len(kind.Fields)-1] {
		if f.Of == "int" && !f.List && r.Intn(3) > 0 {
			last.Needs = append(last.Needs, f.Name)
		}
	}
	slices.Sort(last.Needs)
}
