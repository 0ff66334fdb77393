package tests

import (
	"math/rand"
	"slices"
	"strconv"
	"strings"
	"testing"

	"loop.example/portolan/impl"
)

func TestP4WrittenAsTheDocumentSays(t *testing.T) {
	wantPart(t, "base", base(), 0, 0)
	if got := impl.PartWrite(base()); got != baseText {
		t.Errorf("written %q", got)
	}
	p, f := impl.PartRead(baseText)
	if f.Code != 0 || f.At != 0 || !same(p, base()) {
		t.Errorf("read %v, %v", p, f)
	}
}

func TestP4ThereAndBack(t *testing.T) {
	r := rand.New(rand.NewSource(4))
	for range 3000 {
		p := anyPart(r)
		line := impl.PartWrite(p)
		got, f := impl.PartRead(line)
		if line != byHand(p) || f.Code != 0 || f.At != 0 || !same(got, p) {
			t.Fatalf("%v is written %q and read %v, %v", p, line, got, f)
		}
	}
}

func TestP4OneByteOff(t *testing.T) {
	for i := 0; i <= len(baseText); i++ {
		for _, b := range []byte(" \n![]a_9pk\x00\xff") {
			wantReadAsWritten(t, baseText[:i]+string([]byte{b})+baseText[i:])
		}
		if i < len(baseText) {
			wantReadAsWritten(t, baseText[:i]+baseText[i+1:])
		}
	}
}

// wantReadAsWritten fails if a text is read that is not written so, or refused with less than a code and nothing.
func wantReadAsWritten(t *testing.T, line string) {
	t.Helper()
	p, f := impl.PartRead(line)
	if f.Code == 0 && (f.At != 0 || impl.PartWrite(p) != line) {
		t.Errorf("%q is read as %v", line, p)
	}
	if f.Code != 0 && !isNothing(p) || f.At < 0 || f.At > strings.Count(line, "\n")+1 {
		t.Errorf("%q is refused with %v, %v", line, p, f)
	}
}

func TestP5FieldsThatAreThere(t *testing.T) {
	r := rand.New(rand.NewSource(5))
	for range 500 {
		p := anyPart(r)
		for _, name := range []string{"query", "user", "item", "a", "abcdefgh", "int", "", "id"} {
			for _, field := range []string{"id", "b", "c1", "d_d", "user", "efghijkl", "z", "query", "", "_id", "c"} {
				want, there := lookUp(p, name, field)
				got, ok := impl.PartField(p, name, field)
				if ok != there || !same(got, want) {
					t.Fatalf("%v: %s.%s is %v, %v", p, name, field, got, ok)
				}
			}
		}
	}
}

func lookUp(p impl.Part, name, field string) (impl.Field, bool) {
	for _, kind := range p.Types {
		for _, f := range kind.Fields {
			if kind.Name == name && f.Name == field {
				return f, true
			}
		}
	}
	return impl.Field{}, false
}

func TestP6NothingTwice(t *testing.T) {
	r := rand.New(rand.NewSource(6))
	for range 300 {
		p := anyPart(r)
		if impl.PartCheck(p) != (impl.PartFault{}) {
			t.Fatalf("%v has a fault", p)
		}
		for i := range p.Types {
			for to := range len(p.Types) + 1 {
				twice := deep(p)
				twice.Types = slices.Insert(twice.Types, to, deep(p.Types[i]))
				wantTwice(t, twice)
			}
			for j := range p.Types[i].Fields {
				for to := range len(p.Types[i].Fields) + 1 {
					twice := deep(p)
					twice.Types[i].Fields = slices.Insert(twice.Types[i].Fields, to, deep(p.Types[i].Fields[j]))
					wantTwice(t, twice)
				}
			}
		}
	}
	other := impl.Type{Name: "user", Fields: []impl.Field{{Name: "x", Of: "text"}}}
	wantPart(t, "another type of a name", changed(func(p *impl.Part) { p.Types = append(p.Types, other) }), 4, impl.PartTwice)
	wantPart(t, "another field of a name", with(2, impl.Field{Name: "w", Of: "text", List: true}), 3, impl.PartTwice)
	wantPart(t, "one field in two types", with(2, impl.Field{Name: "age", Of: "int"}), 0, 0)
}

func wantTwice(t *testing.T, p impl.Part) {
	t.Helper()
	if impl.PartCheck(p).Code == 0 || impl.PartWrite(p) != "" {
		t.Errorf("nothing is found twice in %v", p)
	}
	if got, f := impl.PartRead(byHand(p)); f.Code == 0 || !isNothing(got) {
		t.Errorf("%q is read", byHand(p))
	}
}

func TestPartNames(t *testing.T) {
	good := []string{"a", "z", "abcdefgh", "a_", "a1", "z_9", "query", "ints", "par", "keys", "null"}
	bad := []string{"", "_", "_a", "1", "1a", "A", "aB", "a b", "a-b", "a\n", "a\x00", "\xff", "abcdefghi", "[a]", "a!",
		"int", "text", "bool", "part", "type", "key", "far", "hidden", "shared", "needs"}
	try := func(name string, ok bool) {
		t.Helper()
		code, of, need := impl.PartBadLine, impl.PartBadLine, impl.PartBadLine
		if ok {
			code, of, need = 0, impl.PartUnknown, impl.PartBadNeed
		}
		if name == "int" || name == "text" || name == "bool" {
			of = 0
		}
		zeroUnless := func(at, code int) int {
			if code == 0 {
				return 0
			}
			return at
		}
		wantPart(t, "part "+name, changed(func(p *impl.Part) { p.Name = name }), 0, code)
		wantPart(t, "field "+name, with(2, impl.Field{Name: name, Of: "int"}), zeroUnless(3, code), code)
		if name != "query" && name != "" {
			key := impl.Field{Name: name, Of: "int", Must: true}
			wantPart(t, "key "+name, changed(func(p *impl.Part) {
				p.Types = append(p.Types, impl.Type{Name: "other", Key: name, Fields: []impl.Field{key}})
			}), zeroUnless(4, code), code)
		}
		if name != "query" {
			wantPart(t, "of "+name, with(2, impl.Field{Name: "x", Of: name}), zeroUnless(3, of), of)
			wantPart(t, "needs "+name, with(2, impl.Field{Name: "x", Of: "int", Needs: []string{name}}), 3, need)
			wantPart(t, "type "+name, changed(func(p *impl.Part) {
				p.Types = append(p.Types, impl.Type{Name: name, Fields: []impl.Field{{Name: "x", Of: "int"}}})
			}), zeroUnless(4, code), code)
		}
	}
	for _, name := range good {
		try(name, true)
	}
	for _, name := range bad {
		try(name, false)
	}
}

func TestPartLimits(t *testing.T) {
	types := func(n int) impl.Part {
		return changed(func(p *impl.Part) {
			for i := len(p.Types); i < n; i++ {
				p.Types = append(p.Types, impl.Type{Name: "t" + strconv.Itoa(i), Fields: []impl.Field{{Name: "x", Of: "int"}}})
			}
		})
	}
	fields := func(place, n int) impl.Part {
		return changed(func(p *impl.Part) {
			for i := len(p.Types[place].Fields); i < n; i++ {
				p.Types[place].Fields = append(p.Types[place].Fields, impl.Field{Name: "f" + strconv.Itoa(i), Of: "int"})
			}
		})
	}
	wantPart(t, "5 types", types(5), 0, 0)
	wantPart(t, "6 types", types(6), 6, impl.PartTooMany)
	wantPart(t, "60 types", types(60), 6, impl.PartTooMany)
	for place := range 3 {
		wantPart(t, "8 fields", fields(place, 8), 0, 0)
		wantPart(t, "9 fields", fields(place, 9), place+1, impl.PartBadLine)
		wantPart(t, "no fields", changed(func(p *impl.Part) { p.Types[place].Fields = nil }), place+1, impl.PartBadLine)
	}
	wantPart(t, "1499 bytes", sized(t, 1499), 0, 0)
	wantPart(t, "1500 bytes", sized(t, 1500), 0, 0)
	wantPart(t, "1501 bytes", sized(t, 1501), 0, impl.PartTooMany)
	wantLine(t, byHand(sized(t, 1500)), 0, 0)
	wantLine(t, byHand(sized(t, 1501)), 0, impl.PartTooMany)
	wantLine(t, byHand(types(5)), 0, 0)
	wantLine(t, byHand(types(6)), 21, impl.PartTooMany)
	wantLine(t, byHand(fields(1, 8)), 0, 0)
	wantLine(t, byHand(fields(1, 9)), 6, impl.PartBadLine)
}

func TestPartRoot(t *testing.T) {
	wantPart(t, "nothing", impl.Part{}, 0, impl.PartBadLine)
	wantPart(t, "no types", impl.Part{Name: "a"}, 0, impl.PartNoRoot)
	wantPart(t, "another first", changed(func(p *impl.Part) { p.Types = p.Types[1:] }), 0, impl.PartNoRoot)
	wantPart(t, "query behind", changed(func(p *impl.Part) { p.Types[0], p.Types[1] = p.Types[1], p.Types[0] }), 0, impl.PartNoRoot)
	wantPart(t, "query without a name", changed(func(p *impl.Part) { p.Types[0].Name = "" }), 0, impl.PartNoRoot)
	wantPart(t, "a key of query", changed(func(p *impl.Part) {
		p.Types[0].Key = "n"
		p.Types[0].Fields[0].Must = true
	}), 0, impl.PartNoRoot)
	for place := range 3 {
		wantPart(t, "of query", with(place, impl.Field{Name: "q", Of: "query"}), place+1, impl.PartNoRoot)
		wantPart(t, "list of query", with(place, impl.Field{Name: "q", Of: "query", List: true, Far: true}), place+1, impl.PartNoRoot)
	}
}

func TestPartKeys(t *testing.T) {
	key := func(change func(f *impl.Field)) impl.Part {
		return changed(func(p *impl.Part) { change(&p.Types[1].Fields[0]) })
	}
	wantPart(t, "not shared", key(func(f *impl.Field) { f.Shared = false }), 0, 0)
	wantPart(t, "a list", key(func(f *impl.Field) { f.List = true }), 2, impl.PartBadKey)
	wantPart(t, "without must", key(func(f *impl.Field) { f.Must = false }), 2, impl.PartBadKey)
	wantPart(t, "far", key(func(f *impl.Field) { f.Far = true }), 2, impl.PartBadKey)
	wantPart(t, "hidden", key(func(f *impl.Field) { f.Hidden = true }), 2, impl.PartBadKey)
	wantPart(t, "text", key(func(f *impl.Field) { f.Of = "text" }), 2, impl.PartBadKey)
	wantPart(t, "of a type", key(func(f *impl.Field) { f.Of = "user" }), 2, impl.PartBadKey)
	wantPart(t, "needs", key(func(f *impl.Field) { f.Needs = []string{"age"} }), 2, impl.PartBadKey)
	wantPart(t, "no field", changed(func(p *impl.Part) { p.Types[1].Key = "no" }), 2, impl.PartBadKey)
	wantPart(t, "the type's own name", changed(func(p *impl.Part) { p.Types[1].Key = "user" }), 2, impl.PartBadKey)
	wantPart(t, "none", changed(func(p *impl.Part) {
		p.Types[1].Key = ""
		p.Types[1].Fields[3].Needs = nil
	}), 0, 0)
}

func TestPartNeeds(t *testing.T) {
	need := func(f impl.Field, needs ...string) impl.Part {
		f.Name, f.Needs = "x", needs
		if f.Of == "" {
			f.Of = "int"
		}
		p := with(1, impl.Field{Name: "b", Of: "int", Must: true, Hidden: true}, f)
		return p
	}
	wantPart(t, "one", need(impl.Field{}, "b"), 0, 0)
	wantPart(t, "the key", need(impl.Field{}, "id"), 0, 0)
	wantPart(t, "what is far", need(impl.Field{Hidden: true}, "age"), 0, 0)
	wantPart(t, "three", need(impl.Field{Shared: true}, "age", "b", "id"), 0, 0)
	wantPart(t, "of text", need(impl.Field{Of: "text"}, "b"), 2, impl.PartBadNeed)
	wantPart(t, "of a type", need(impl.Field{Of: "item"}, "b"), 2, impl.PartBadNeed)
	wantPart(t, "list", need(impl.Field{List: true}, "b"), 2, impl.PartBadNeed)
	wantPart(t, "far", need(impl.Field{Far: true}, "b"), 2, impl.PartBadNeed)
	wantPart(t, "must", need(impl.Field{Must: true}, "b"), 2, impl.PartBadNeed)
	wantPart(t, "itself", need(impl.Field{}, "x"), 2, impl.PartBadNeed)
	wantPart(t, "nobody", need(impl.Field{}, "nobody"), 2, impl.PartBadNeed)
	wantPart(t, "another type's", need(impl.Field{}, "w"), 2, impl.PartBadNeed)
	wantPart(t, "a text", need(impl.Field{}, "name"), 2, impl.PartBadNeed)
	wantPart(t, "of a type's", need(impl.Field{}, "item"), 2, impl.PartBadNeed)
	wantPart(t, "one with needs", need(impl.Field{}, "rank"), 2, impl.PartBadNeed)
	wantPart(t, "not ascending", need(impl.Field{}, "b", "age"), 2, impl.PartBadNeed)
	wantPart(t, "one twice", need(impl.Field{}, "age", "age"), 2, impl.PartBadNeed)
	wantPart(t, "far and shared", with(2, impl.Field{Name: "x", Of: "text", Far: true, Shared: true}), 3, impl.PartBadNeed)
	wantPart(t, "far and shared in query", with(0, impl.Field{Name: "x", Of: "user", Far: true, Shared: true}), 1, impl.PartBadNeed)
	wantPart(t, "in query", with(0, impl.Field{Name: "x", Of: "int", Needs: []string{"n"}}), 1, impl.PartBadNeed)
	list := impl.Field{Name: "b", Of: "int", List: true}
	wantPart(t, "a list", with(1, list, impl.Field{Name: "x", Of: "int", Needs: []string{"b"}}), 2, impl.PartBadNeed)
	wantPart(t, "no key", changed(func(p *impl.Part) { p.Types[1].Key = "" }), 2, impl.PartBadNeed)
	names := impl.Part{Name: "p", Types: []impl.Type{{Name: "query", Fields: []impl.Field{{Name: "u", Of: "u"}}}, {Name: "u", Key: "id", Fields: []impl.Field{
		{Name: "id", Of: "int", Must: true}, {Name: "ab", Of: "int"}, {Name: "a", Of: "int"}, {Name: "a1", Of: "int"}, {Name: "a_", Of: "int"},
		{Name: "x", Of: "int", Needs: []string{"a", "a1", "a_", "ab"}},
	}}}}
	wantPart(t, "byte by byte, a beginning first", names, 0, 0)
	names.Types[1].Fields[5].Needs = []string{"ab", "a"}
	wantPart(t, "a beginning behind", names, 2, impl.PartBadNeed)
}

func TestPartTypesThatAreNotThere(t *testing.T) {
	for place := range 3 {
		wantPart(t, "unknown", with(place, impl.Field{Name: "x", Of: "nobody"}), place+1, impl.PartUnknown)
		wantPart(t, "unknown list", with(place, impl.Field{Name: "x", Of: "nobody", List: true, Far: true}), place+1, impl.PartUnknown)
		wantPart(t, "known, behind or ahead", with(place, impl.Field{Name: "x", Of: "item"}, impl.Field{Name: "y", Of: "user"}), 0, 0)
		wantPart(t, "a field's name", with(place, impl.Field{Name: "x", Of: "age"}), place+1, impl.PartUnknown)
	}
}

// breach is a way to break a part: it has a fault At with a Code then.
type breach struct {
	what     string
	at, code int
	change   func(p *impl.Part)
}

// breaches are ways to break the base, in the order in which PartCheck looks for them.
func breaches() []breach {
	out := []breach{
		{"types", 6, impl.PartTooMany, func(p *impl.Part) {
			for i := len(p.Types); i < 6; i++ {
				p.Types = append(p.Types, impl.Type{})
			}
		}},
		{"name", 0, impl.PartBadLine, func(p *impl.Part) { p.Name = "Base" }},
		{"root", 0, impl.PartNoRoot, func(p *impl.Part) { p.Types[0].Key = "n" }},
	}
	for place := range 3 {
		out = append(out, typeBreaches(place)...)
	}
	return append(out, breach{"bytes", 0, impl.PartTooMany, nil})
}

// typeBreaches each change another thing of a type, so that two of them can be done at once.
func typeBreaches(place int) []breach {
	add := func(f impl.Field) func(p *impl.Part) {
		return func(p *impl.Part) { p.Types[place].Fields = append(p.Types[place].Fields, f) }
	}
	at, in := place+1, " in "+strconv.Itoa(place+1)
	out := []breach{
		{"field's name" + in, at, impl.PartBadLine, add(impl.Field{Name: "_b", Of: "int"})},
		{"of" + in, at, impl.PartBadLine, add(impl.Field{Name: "ba", Of: "[int"})},
		{"need's name" + in, at, impl.PartBadLine, add(impl.Field{Name: "bb", Of: "int", Needs: []string{"far"}})},
		{"field twice" + in, at, impl.PartTwice, func(p *impl.Part) {
			p.Types[place].Fields = append(p.Types[place].Fields, p.Types[place].Fields[1])
		}},
		{"unknown" + in, at, impl.PartUnknown, add(impl.Field{Name: "bc", Of: "nobody"})},
	}
	if place > 0 {
		out = append(out, breach{"key" + in, at, impl.PartBadKey, func(p *impl.Part) { p.Types[place].Key = "nokey" }})
	}
	return append(out,
		breach{"far and shared" + in, at, impl.PartBadNeed, add(impl.Field{Name: "bd", Of: "int", Far: true, Shared: true})},
		breach{"needs nobody" + in, at, impl.PartBadNeed, add(impl.Field{Name: "be", Of: "int", Needs: []string{"nobody"}})},
		breach{"of query" + in, at, impl.PartNoRoot, add(impl.Field{Name: "bf", Of: "query"})})
}

func TestPartFirstFault(t *testing.T) {
	wantPart(t, "bytes", tooLong(), 0, impl.PartTooMany)
	all := breaches()
	for i, first := range all {
		if first.change == nil {
			continue
		}
		wantPart(t, first.what, changed(first.change), first.at, first.code)
		for _, second := range all[i+1:] {
			p := base()
			if second.change == nil {
				p = tooLong()
			} else {
				second.change(&p)
			}
			first.change(&p)
			wantPart(t, first.what+" and "+second.what, p, first.at, first.code)
		}
	}
	none := changed(func(p *impl.Part) { p.Types[2].Fields = nil; p.Types[1].Name = "query" })
	wantPart(t, "no fields behind a type twice", none, 1, impl.PartUnknown)
	twice := changed(func(p *impl.Part) {
		p.Types[1].Fields = p.Types[1].Fields[:4]
		p.Types[2].Name, p.Types[2].Key = "user", "no"
		p.Types[2].Fields[1].Of = "nobody"
	})
	wantPart(t, "type twice and unknown", twice, 3, impl.PartTwice)
}

// tooLong is a part that has only too many bytes, with the room of a field more in each of its first three types.
func tooLong() impl.Part {
	p := impl.Part{Name: "long", Types: []impl.Type{{Name: "query"}}}
	for _, name := range []string{"aaaaaaaa", "bbbbbbbb", "cccccccc", "dddddddd"} {
		kind := impl.Type{Name: name, Key: "needed_0"}
		for i := range 7 {
			f := impl.Field{Name: "needed_" + strconv.Itoa(i), Of: "int", Must: true, Shared: true}
			if i > 3 {
				f.Must, f.Hidden, f.Needs = false, true, []string{"needed_0", "needed_1", "needed_2", "needed_3"}
			}
			kind.Fields = append(kind.Fields, f)
		}
		p.Types = append(p.Types, kind)
	}
	for i := range 7 {
		f := impl.Field{Name: "longer_" + strconv.Itoa(i), Of: "aaaaaaaa", List: true, Must: true, Hidden: true, Shared: true}
		p.Types[0].Fields = append(p.Types[0].Fields, f)
	}
	return p
}

func TestPartReadLines(t *testing.T) {
	const head = "part a\ntype query\n  a int\n"
	for _, c := range []struct {
		line     string
		at, code int
	}{
		{head, 0, 0},
		{"", 1, impl.PartBadLine}, {"\n", 1, impl.PartBadLine}, {"x", 1, impl.PartBadLine}, {"part a", 1, impl.PartBadLine}, {"part\n", 1, impl.PartBadLine},
		{"part \n", 1, impl.PartBadLine}, {"part  \n", 1, impl.PartBadLine}, {"part a b\n", 1, impl.PartBadLine}, {"part a \n", 1, impl.PartBadLine}, {" part a\n", 1, impl.PartBadLine},
		{"Part a\n", 1, impl.PartBadLine}, {"parta\n", 1, impl.PartBadLine}, {"type query\n", 1, impl.PartBadLine}, {"\npart a\n", 1, impl.PartBadLine},
		{"part a\n", 0, impl.PartNoRoot}, {"part a\n\n", 2, impl.PartBadLine}, {"part a\npart a\n", 2, impl.PartBadLine}, {"part a\nx\n", 2, impl.PartBadLine}, {"part a\r\n", 0, impl.PartBadLine},
		{"part a\n  a int\ntype query\n", 2, impl.PartBadLine}, {"part A\ntype query\n  a int\n", 0, impl.PartBadLine}, {"part A\ntype query\n a int\n", 3, impl.PartBadLine},
		{"part a\ntype\n", 2, impl.PartBadLine}, {"part a\ntype query \n", 2, impl.PartBadLine}, {"part a\ntype query x\n", 2, impl.PartBadLine}, {"part a\ntype query key\n", 2, impl.PartBadLine},
		{"part a\ntype query key \n", 2, impl.PartBadLine}, {"part a\ntype query key a b\n", 2, impl.PartBadLine}, {"part a\ntype query kex a\n", 2, impl.PartBadLine}, {"part a\n type query\n", 2, impl.PartBadLine},
		{"part a\ntype query key a\n  a int!\n", 0, impl.PartNoRoot}, {"part a\ntype \n  a int\n", 0, impl.PartNoRoot}, {"part a\ntype  key a\n  a int!\n", 0, impl.PartNoRoot},
		{head + "type \n  a int\n", 4, impl.PartBadLine}, {head + "type \n  a int\nx\n", 6, impl.PartBadLine}, {head + "type b\n", 4, impl.PartBadLine}, {head + "type key key c\n  c int!\n", 4, impl.PartBadLine},
		{head + "type key\n  c int!\n", 4, impl.PartBadLine}, {head + "type b key \n  c int!\n", 4, impl.PartBadLine}, {head + "type b key C\n  C int!\nx\n", 6, impl.PartBadLine},
		{head + "x", 4, impl.PartBadLine}, {head + "  b int", 4, impl.PartBadLine}, {head + " ", 4, impl.PartBadLine}, {head + "\n", 4, impl.PartBadLine}, {head + "x\ny", 4, impl.PartBadLine},
		{head[:len(head)-1], 3, impl.PartBadLine}, {head + head, 4, impl.PartBadLine},
	} {
		wantLine(t, c.line, c.at, c.code)
	}
}

func TestPartReadFields(t *testing.T) {
	for _, c := range []struct {
		field    string
		at, code int
	}{
		{"  b int", 0, 0}, {"  b int!", 0, 0}, {"  b [int]", 0, 0}, {"  b [u]!", 0, 0}, {"  b u far hidden", 0, 0}, {"  b u hidden shared", 0, 0}, {"  b int needs id", 0, 0}, {"  b int hidden shared needs id", 0, 0},
		{"  b", 6, impl.PartBadLine}, {"  ", 6, impl.PartBadLine}, {" ", 6, impl.PartBadLine}, {" b int", 6, impl.PartBadLine}, {"b int", 6, impl.PartBadLine}, {"\tb int", 6, impl.PartBadLine},
		{"  b  int", 6, impl.PartBadLine}, {"  b int ", 6, impl.PartBadLine}, {"  b int  far", 6, impl.PartBadLine}, {"  b int x", 6, impl.PartBadLine}, {"  b int Far", 6, impl.PartBadLine},
		{"  b int hidden far", 6, impl.PartBadLine}, {"  b int shared hidden", 6, impl.PartBadLine}, {"  b int far far", 6, impl.PartBadLine}, {"  b int shared shared", 6, impl.PartBadLine},
		{"  b int needs", 6, impl.PartBadLine}, {"  b int far needs", 6, impl.PartBadLine}, {"  b int !", 6, impl.PartBadLine}, {"  b int! needs", 6, impl.PartBadLine},
		// From here on the line can be read, but is no part of a type that is ok: that has the line 4.
		{"  b ", 4, impl.PartBadLine}, {"   int", 4, impl.PartBadLine}, {"   ", 4, impl.PartBadLine}, {"    far", 4, impl.PartBadLine}, {"  B int", 4, impl.PartBadLine}, {"  b !", 4, impl.PartBadLine}, {"  b []", 4, impl.PartBadLine},
		{"  b []!", 4, impl.PartBadLine}, {"  b [", 4, impl.PartBadLine}, {"  b ]", 4, impl.PartBadLine}, {"  b ][", 4, impl.PartBadLine}, {"  b [int", 4, impl.PartBadLine}, {"  b int]", 4, impl.PartBadLine}, {"  b int!!", 4, impl.PartBadLine}, {"  b [int!]", 4, impl.PartBadLine},
		{"  b [[int]]", 4, impl.PartBadLine}, {"  b !int", 4, impl.PartBadLine}, {"  b far", 4, impl.PartBadLine}, {"  b far far", 4, impl.PartBadLine}, {"  far int", 4, impl.PartBadLine}, {"  b int\t", 4, impl.PartBadLine}, {"  b\x00 int", 4, impl.PartBadLine},
		{"  b int needs ", 4, impl.PartBadLine}, {"  b int needs  id", 4, impl.PartBadLine}, {"  b int needs id ", 4, impl.PartBadLine}, {"  b int needs far", 4, impl.PartBadLine}, {"  b int needs needs", 4, impl.PartBadLine}, {"  b int needs id far", 4, impl.PartBadLine},
		{"  id int", 4, impl.PartTwice}, {"  b z", 4, impl.PartUnknown}, {"  b text needs id", 4, impl.PartBadNeed}, {"  b int needs id id", 4, impl.PartBadNeed}, {"  b int far hidden shared", 4, impl.PartBadNeed}, {"  b query", 4, impl.PartNoRoot},
	} {
		const head = "part a\ntype query\n  a int\ntype u key id\n  id int!\n"
		wantLine(t, head+c.field+"\n", c.at, c.code)
		wantLine(t, head+c.field+"\n  c int\n", c.at, c.code)
		at := c.at
		if at != 6 {
			at = 7
		}
		wantLine(t, head+c.field+"\nx\n", at, impl.PartBadLine)
		wantLine(t, head+c.field, 6, impl.PartBadLine)
	}
	wantLine(t, "part a\ntype query\n  a int\ntype u key id\n  id int\n", 4, impl.PartBadKey)
}

func TestPartReadLongTexts(t *testing.T) {
	wantLine(t, strings.Repeat("x", 1500), 1, impl.PartBadLine)
	wantLine(t, strings.Repeat("x", 1501), 0, impl.PartTooMany)
	wantLine(t, strings.Repeat("\n", 1501), 0, impl.PartTooMany)
	wantLine(t, "part "+strings.Repeat("x", 1494)+"\n", 0, impl.PartBadLine)
	wantLine(t, "part a\n"+strings.Repeat("type a\n", 213), 7, impl.PartTooMany)
	wantLine(t, "part a\n"+strings.Repeat("type a\n", 213)+"x", 215, impl.PartBadLine)
}

func TestPartReadTypeLines(t *testing.T) {
	for _, b := range breaches() {
		if b.change == nil {
			continue
		}
		at := 0
		lines := strings.Split(byHand(changed(b.change)), "\n")
		for i, seen := 0, 0; i < len(lines) && at == 0; i++ {
			if strings.HasPrefix(lines[i], "type ") {
				seen++
			}
			if b.at > 0 && seen == b.at {
				at = i + 1
			}
		}
		wantLine(t, byHand(changed(b.change)), at, b.code)
	}
}
