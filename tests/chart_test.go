package tests

import (
	"fmt"
	"math/rand"
	"slices"
	"strings"
	"testing"

	"loop.example/portolan/impl"
)

// The parts of the document's example.
const (
	eastTold = "east; type query; n0 int; users [user]; type user key id; id int!; name text!; age int"
	westTold = "west; type query; n1 int; type user key id; id int!; age int far; rank int needs age"
)

func TestChartOfTheExample(t *testing.T) {
	c, fault := wantChart(t, crew(t, eastTold, westTold))
	want := impl.Chart{
		All: part(t, "part a\ntype query\n  n0 int\n  users [user]\n  n1 int\ntype user key id\n  id int!\n  name text!\n  age int\n  rank int needs age\n"),
		Owners: []impl.Owner{
			{Type: "query", Field: "n0", Parts: []int{0}}, {Type: "query", Field: "users", Parts: []int{0}}, {Type: "query", Field: "n1", Parts: []int{1}},
			{Type: "user", Field: "id", Parts: []int{0, 1}}, {Type: "user", Field: "name", Parts: []int{0}}, {Type: "user", Field: "age", Parts: []int{0}}, {Type: "user", Field: "rank", Parts: []int{1}},
		},
	}
	if fault != (impl.ChartFault{}) || !same(c, want) {
		t.Errorf("a chart %v, %v", c, fault)
	}
	if got := impl.ChartText(c); got != "part a\ntype query\n  n0 int\n  users [user]\n  n1 int\ntype user\n  id int!\n  name text!\n  age int\n  rank int\n" {
		t.Errorf("told as %q", got)
	}
}

// Each code, with its place.
func TestChartFaults(t *testing.T) {
	for _, c := range []struct {
		told      []string
		at        int
		of, field string
		code      int
	}{
		{nil, 0, "", "", impl.ChartMany},
		{[]string{"a; type query; n int", "b; type query; m int", "a; type query; k int"}, 3, "", "", impl.ChartTwice},
		{[]string{"a; type query; n int", "a; type query; n int"}, 2, "", "", impl.ChartTwice},
		{[]string{"a; type query; n int", "b; type query; m int", "b; type query; k int", "a; type query; l int"}, 3, "", "", impl.ChartTwice},
		// Another Of, List or Must, whether the part knows it or not: it is told of the first part that has the field.
		{[]string{"a; type query; n int", "b; type query; n text"}, 1, "query", "n", impl.ChartUnlike},
		{[]string{"a; type query; n [int]", "b; type query; n int"}, 1, "query", "n", impl.ChartUnlike},
		{[]string{"a; type query; n int", "b; type query; n int!"}, 1, "query", "n", impl.ChartUnlike},
		{[]string{"a; type query; n int far", "b; type query; n bool"}, 1, "query", "n", impl.ChartUnlike},
		{[]string{"a; type query; m int", "b; type query; n u; type u; x int", "c; type query; n v; type v; x int"}, 2, "query", "n", impl.ChartUnlike},
		{[]string{"a; type query; n u; type u; x int; y int", "b; type query; m u; type u; y [int]"}, 1, "u", "y", impl.ChartUnlike},
		{[]string{"a; type query; n int shared", "b; type query; n int shared", "c; type query; n int far", "d; type query; n text far"}, 1, "query", "n", impl.ChartUnlike},
		// A field of one name of another type is another field.
		{[]string{"a; type query; n int; type u; x int", "b; type query; m int; type v; x text"}, 0, "", "", 0},
		// Another key than the first part that has one has: the first part need not have one.
		{[]string{"a; type query; n u; type u key id; id int!", "b; type query; m u; type u key no; no int!"}, 2, "u", "", impl.ChartKey},
		{[]string{"a; type query; n u; type u; x int", "b; type query; m u; type u key id; id int!", "c; type query; k u; type u key no; no int!"}, 3, "u", "", impl.ChartKey},
		{[]string{"a; type query; n u; type u key id; id int!", "b; type query; m u; type u; x int", "c; type query; k u; type u key no; no int!"}, 3, "u", "", impl.ChartKey},
		{[]string{"a; type query; n u; type u key id; id int!; no int! shared", "b; type query; m u; type u key no; no int! shared; id int!"}, 2, "u", "", impl.ChartKey},
		{[]string{"a; type query; n u; type u key id; id int!; type v key id; id int!", "b; type query; m u; type v key id; id int!; type u key no; no int!"}, 2, "u", "", impl.ChartKey},
		// Nobody knows it.
		{[]string{"a; type query; n int far"}, 1, "query", "n", impl.ChartFar},
		{[]string{"a; type query; n int", "b; type query; m int; k int far", "c; type query; k int far"}, 2, "query", "k", impl.ChartFar},
		{[]string{westTold}, 1, "user", "age", impl.ChartFar},
		{[]string{"a; type query; n int; type u; x int far", "b; type query; m int; type v; x int"}, 1, "u", "x", impl.ChartFar},
		{[]string{"a; type query; n int far", "b; type query; n int"}, 0, "", "", 0},
		// Several know it, but not so many have it Shared.
		{[]string{"a; type query; n int", "b; type query; n int"}, 1, "query", "n", impl.ChartShared},
		{[]string{"a; type query; n int shared", "b; type query; n int"}, 1, "query", "n", impl.ChartShared},
		{[]string{"a; type query; n int", "b; type query; n int shared"}, 1, "query", "n", impl.ChartShared},
		{[]string{"a; type query; k int", "b; type query; n int shared", "c; type query; n int shared", "d; type query; n int"}, 2, "query", "n", impl.ChartShared},
		{[]string{"a; type query; n int far", "b; type query; n int shared", "c; type query; n int"}, 1, "query", "n", impl.ChartShared},
		{[]string{"a; type query; n int shared", "b; type query; n int shared"}, 0, "", "", 0},
		{[]string{"a; type query; n int far", "b; type query; n int shared", "c; type query; n int shared"}, 0, "", "", 0},
		{[]string{"a; type query; n int shared"}, 0, "", "", 0},
		{[]string{"a; type query; n int", "b; type query; n int far"}, 0, "", "", 0},
		// Several know it, and one has Needs for it.
		{[]string{"a; type query; n u; type u key id; id int!; x int; r int shared needs x", "b; type query; m u; type u key id; id int!; r int shared"}, 1, "u", "r", impl.ChartNeeds},
		{[]string{"a; type query; n u; type u key id; id int!; x int; r int shared", "b; type query; m u; type u key id; id int!; r int shared needs id"}, 1, "u", "r", impl.ChartNeeds},
		{[]string{"a; type query; n u; type u key id; id int!; r int far", "b; type query; m u; type u key id; id int!; r int shared needs id", "c; type query; k u; type u key id; id int!; r int shared needs id"}, 1, "u", "r", impl.ChartNeeds},
		// Another part has Needs for one of its Needs.
		{[]string{"a; type query; n u; type u key id; id int!; b int; a int needs b", "b; type query; m u; type u key id; id int!; a int far; c int needs a"}, 2, "u", "c", impl.ChartNeeds},
		{[]string{"b; type query; m u; type u key id; id int!; a int far; c int needs a", "a; type query; n u; type u key id; id int!; b int; a int needs b"}, 1, "u", "c", impl.ChartNeeds},
		{[]string{"z; type query; k u; type u key id; id int!; c int far", "b; type query; m u; type u key id; id int!; a int far; c int needs a id", "a; type query; n u; type u key id; id int!; b int; a int needs b"}, 2, "u", "c", impl.ChartNeeds},
		{[]string{"a; type query; n u; type u key id; id int!; b int; a int needs b", "b; type query; m u; type u key id; id int!; a int far; b int far; c int needs b"}, 0, "", "", 0},
	} {
		wantChartFault(t, crew(t, c.told...), c.at, c.of, c.field, c.code)
	}
}

// Which code comes first, if two apply, to one thing or to different ones.
func TestChartFirstFault(t *testing.T) {
	for _, c := range []struct {
		told      []string
		at        int
		of, field string
		code      int
	}{
		// ChartTwice ahead of all that is wrong within the parts.
		{[]string{"a; type query; n int far", "a; type query; n text"}, 2, "", "", impl.ChartTwice},
		{[]string{"a; type query; n int", "b; type query; n text", "a; type query; m int"}, 3, "", "", impl.ChartTwice},
		// ChartKey of a type ahead of ChartUnlike of its fields and of types behind it; but not of a part or a type ahead of it.
		{[]string{"a; type query; n u; type u key id; id int!", "b; type query; m u; type u key no; no int!; x int", "c; type query; k u; type u; x text"}, 2, "u", "", impl.ChartKey},
		{[]string{"a; type query; n u; type u key id; id int!; no int", "b; type query; m u; type u key no; no int!"}, 1, "u", "no", impl.ChartUnlike},
		{[]string{"a; type query; n u; type u key id; id int!", "b; type query; m u; n [u]; type u key no; no int!"}, 1, "query", "n", impl.ChartUnlike},
		{[]string{"a; type query; n u; type u key id; id int!", "b; type query; m u; type u key no; no int!; type v; x int", "c; type query; k u; type u; y int; type v; x text"}, 2, "u", "", impl.ChartKey},
		{[]string{"a; type query; n u; type u key id; id int!", "b; type query; m u; type v; x int; type u key no; no int!", "c; type query; k int; type v; x text"}, 2, "v", "x", impl.ChartUnlike},
		{[]string{"a; type query; n u; type u key id; id int!", "b; type query; m u; k int; type u key no; no int!", "c; type query; k text"}, 2, "query", "k", impl.ChartUnlike},
		{[]string{"a; type query; n u; type u key id; id int!", "b; type query; m u; type u key no; no int!", "c; type query; k int", "d; type query; k text"}, 2, "u", "", impl.ChartKey},
		// ChartKey and ChartUnlike of any part ahead of all others of any part.
		{[]string{"a; type query; k int far; n u; type u key id; id int!", "b; type query; m u; type u key no; no int!"}, 2, "u", "", impl.ChartKey},
		{[]string{"a; type query; k int; n u; type u key id; id int!", "b; type query; k int; type u key no; no int!"}, 2, "u", "", impl.ChartKey},
		{[]string{"a; type query; k int far", "b; type query; m int", "c; type query; m text"}, 2, "query", "m", impl.ChartUnlike},
		{[]string{"a; type query; k int", "b; type query; k int; m int", "c; type query; m text"}, 2, "query", "m", impl.ChartUnlike},
		{[]string{"a; type query; n u; type u key id; id int!; r int shared needs id", "b; type query; m int; type u key id; id int!; r int shared", "c; type query; m text"}, 2, "query", "m", impl.ChartUnlike},
		{[]string{"a; type query; n int", "b; type query; n text far"}, 1, "query", "n", impl.ChartUnlike},
		{[]string{"a; type query; n int far", "b; type query; n text far"}, 1, "query", "n", impl.ChartUnlike},
		{[]string{"a; type query; n int", "b; type query; n text"}, 1, "query", "n", impl.ChartUnlike},
		// ChartFar, ChartShared and ChartNeeds: the field that comes first, whichever it is.
		{[]string{"a; type query; k int far; n int", "b; type query; n int"}, 1, "query", "k", impl.ChartFar},
		{[]string{"a; type query; n int; k int far", "b; type query; n int"}, 1, "query", "n", impl.ChartShared},
		{[]string{"a; type query; m int; type u; x int", "b; type query; k int far; type u; x int"}, 1, "u", "x", impl.ChartShared},
		{[]string{"a; type query; n u; type u key id; id int!; r int shared needs id", "b; type query; k int far; type u key id; id int!; r int shared"}, 1, "u", "r", impl.ChartNeeds},
		{[]string{"a; type query; n u; type u key id; id int!; r int shared needs id; x int", "b; type query; k int; type u key id; id int!; r int shared; x int"}, 1, "u", "r", impl.ChartNeeds},
		{[]string{"a; type query; n u; type u key id; id int!; x int; r int shared needs id", "b; type query; k int; type u key id; id int!; r int shared; x int"}, 1, "u", "x", impl.ChartShared},
		{[]string{"a; type query; n u; type u key id; id int!; r int shared needs id; x int far", "b; type query; k int; type u key id; id int!; r int shared"}, 1, "u", "r", impl.ChartNeeds},
		{[]string{"a; type query; n u; type u key id; id int!; x int far; r int shared needs x", "b; type query; k int; type u key id; id int!; r int shared"}, 1, "u", "x", impl.ChartFar},
		// Of one field ChartShared comes ahead of ChartNeeds.
		{[]string{"a; type query; n u; type u key id; id int!; r int needs id", "b; type query; k int; type u key id; id int!; r int shared"}, 1, "u", "r", impl.ChartShared},
		{[]string{"a; type query; n u; type u key id; id int!; b int; a int needs b; c int", "b; type query; m u; type u key id; id int!; a int far; c int needs a"}, 1, "u", "c", impl.ChartShared},
	} {
		wantChartFault(t, crew(t, c.told...), c.at, c.of, c.field, c.code)
	}
}

// Parts that are not ok, and which code comes first with them.
func TestChartBadParts(t *testing.T) {
	fine := crew(t, "a; type query; n int", "b; type query; m int", "c; type query; k int", "d; type query; l int", "e; type query; j int")
	bad := deep(fine[1])
	bad.Types[0].Fields[0].Of = "zz"
	same := deep(bad)
	same.Name = "a"
	wantChartFault(t, []impl.Part{bad}, 1, "", "", impl.ChartBadPart)
	wantChartFault(t, []impl.Part{{}}, 1, "", "", impl.ChartBadPart)
	wantChartFault(t, []impl.Part{fine[0], bad}, 2, "", "", impl.ChartBadPart)
	wantChartFault(t, []impl.Part{fine[0], same}, 2, "", "", impl.ChartBadPart)
	wantChartFault(t, []impl.Part{fine[0], bad, fine[0]}, 2, "", "", impl.ChartBadPart)
	wantChartFault(t, []impl.Part{fine[0], fine[0], bad}, 2, "", "", impl.ChartTwice)
	wantChartFault(t, []impl.Part{fine[0], crew(t, "z; type query; n text")[0], bad}, 3, "", "", impl.ChartBadPart)
	wantChartFault(t, fine[:4], 0, "", "", 0)
	wantChartFault(t, fine, 0, "", "", impl.ChartMany)
	wantChartFault(t, []impl.Part{bad, bad, bad, bad}, 1, "", "", impl.ChartBadPart)
	wantChartFault(t, []impl.Part{bad, bad, bad, bad, bad}, 0, "", "", impl.ChartMany)
	wantChartFault(t, slices.Repeat(fine[:1], 5), 0, "", "", impl.ChartMany)
	wantChartFault(t, []impl.Part{}, 0, "", "", impl.ChartMany)
	// Behind too many parts nothing else is looked for, even if only the last one is wrong.
	wantChartFault(t, append(slices.Clone(fine[:4]), bad), 0, "", "", impl.ChartMany)
}

// Each limit of All met exactly, and one more.
func TestChartLimits(t *testing.T) {
	types := crew(t, "a; type query; n int; type u; x int; type v; x int", "b; type query; m int; type w; x int; type y; x int")
	wantChartFault(t, types, 0, "", "", 0)
	more := deep(types)
	more[1].Types = append(more[1].Types, impl.Type{Name: "z", Fields: []impl.Field{{Name: "x", Of: "int"}}})
	wantChartFault(t, more, 0, "", "", impl.ChartMany)
	fields := crew(t, "a; type query; n1 int; n2 int; n3 int; n4 int; n5 int", "b; type query; m1 int; m2 int; m3 int")
	wantChartFault(t, fields, 0, "", "", 0)
	more = deep(fields)
	more[0].Types[0].Fields = append(more[0].Types[0].Fields, impl.Field{Name: "n6", Of: "int"})
	wantChartFault(t, more, 0, "", "", impl.ChartMany)
	c, _ := wantChart(t, splitAll(t, 1500))
	if got := len(impl.PartWrite(c.All)); got != 1500 {
		t.Errorf("All has %d bytes", got)
	}
	wantChartFault(t, splitAll(t, 1501), 0, "", "", impl.ChartMany)
	wantChartFault(t, splitAll(t, 1600), 0, "", "", impl.ChartMany)
	// What is wrong with a field comes ahead of that.
	more = splitAll(t, 1501)
	more[0].Types[0].Fields[0].Far = true
	wantChartFault(t, more, 1, "query", more[0].Types[0].Fields[0].Name, impl.ChartFar)
	more = splitAll(t, 1501)
	more[1].Name = "x"
	wantChartFault(t, more, 2, "", "", impl.ChartTwice)
	// Four parts with all that a chart may have.
	var parts []impl.Part
	for i := range 4 {
		p := impl.Part{Name: "p" + string(rune('0'+i))}
		for _, name := range []string{"query", "t", "u", "v", "w"} {
			kind := impl.Type{Name: name}
			for j := range 8 {
				kind.Fields = append(kind.Fields, impl.Field{Name: "f" + string(rune('0'+j)), Of: "int", Shared: true})
			}
			p.Types = append(p.Types, kind)
		}
		parts = append(parts, p)
	}
	wantChartFault(t, parts, 0, "", "", 0)
}

// A key that only some have: it is that of all, and needs not be Shared, wherever it is known.
func TestChartKeys(t *testing.T) {
	for _, c := range []struct {
		told   []string
		key    string
		owners string
	}{
		{[]string{"a; type query; n u; type u key id; id int!", "b; type query; m u; type u; id int!"}, "id", "[0 1]"},
		{[]string{"a; type query; n u; type u; id int!", "b; type query; m u; type u key id; id int!"}, "id", "[0 1]"},
		{[]string{"a; type query; n u; type u; id int!; x int", "b; type query; m u; type u key id; id int!", "c; type query; k u; type u; id int! far"}, "id", "[0 1]"},
		{[]string{"a; type query; n u; type u; id int! far; x int", "b; type query; m u; type u key id; id int!"}, "id", "[1]"},
		{[]string{"a; type query; n u; type u; x int", "b; type query; m u; type u key id; id int!"}, "id", "[1]"},
		{[]string{"a; type query; n u; type u; id int! shared", "b; type query; m u; type u key id; id int!"}, "id", "[0 1]"},
		{[]string{"a; type query; n u; type u; id int! shared", "b; type query; m u; type u; id int! shared"}, "", "[0 1]"},
	} {
		got, fault := wantChart(t, crew(t, c.told...))
		if fault.Code != 0 || got.All.Types[1].Key != c.key || fmt.Sprint(impl.ChartOwner(got, "u", "id")) != c.owners {
			t.Errorf("%q: %v, %v", c.told, got, fault)
		}
	}
	// Without any key it is a field as others.
	wantChartFault(t, crew(t, "a; type query; n u; type u; id int!", "b; type query; m u; type u; id int!"), 1, "u", "id", impl.ChartShared)
	// A key of one type is none of another one.
	wantChartFault(t, crew(t, "a; type query; n u; id int!; type u key id; id int!", "b; type query; id int!; type u key id; id int!"), 1, "query", "id", impl.ChartShared)
	// A key that another part hides is none of All.
	wantChartFault(t, crew(t, "a; type query; n u; type u key id; id int!", "b; type query; m u; type u; id int! hidden"), 0, "", "", impl.ChartMany)
	wantChartFault(t, crew(t, "a; type query; n u; type u key id; id int!", "b; type query; m u; type u; id int! far hidden; x int"), 0, "", "", impl.ChartMany)
}

// All has types and fields in the order in which they come first, with what any part says of them.
func TestChartAll(t *testing.T) {
	c, fault := wantChart(t, crew(t,
		"one; type query; b int shared; us [u]!; type u; y text hidden; id int! far",
		"two; type query; a v; b int hidden shared; type v key no; no int!; x int far; s int needs x; type u key id; id int!; y text far; r int far",
		"three; type query; c bool; type u key id; z [v]; id int!; r int shared; type v; x int hidden; no int!",
		"four; type query; a v far; type v; x int far; type u; r int hidden shared"))
	want := "part a\ntype query\n  b int hidden\n  us [u]!\n  a v\n  c bool\ntype u key id\n  y text hidden\n  id int!\n  r int hidden\n  z [v]\ntype v key no\n  no int!\n  x int hidden\n  s int needs x\n"
	if fault.Code != 0 || impl.PartWrite(c.All) != want {
		t.Errorf("All is %q, %v", impl.PartWrite(c.All), fault)
	}
	var owners []string
	for _, o := range c.Owners {
		owners = append(owners, fmt.Sprint(o.Type, ".", o.Field, o.Parts))
	}
	if got := strings.Join(owners, " "); got != "query.b[0 1] query.us[0] query.a[1] query.c[2] u.y[0] u.id[1 2] u.r[2 3] u.z[2] v.no[1 2] v.x[2] v.s[1]" {
		t.Errorf("owners: %s", got)
	}
	if got := impl.ChartText(c); got != "part a\ntype query\n  us [u]!\n  a v\n  c bool\ntype u\n  id int!\n  z [v]\ntype v\n  no int!\n  s int\n" {
		t.Errorf("told as %q", got)
	}
}

func TestChartOwner(t *testing.T) {
	c := impl.Chart{Owners: []impl.Owner{
		{Type: "u", Field: "x", Parts: []int{3, -1, 3}}, {Type: "u", Field: "x", Parts: []int{1}}, {Type: "u", Field: "y"}, {Type: "u", Field: "y", Parts: []int{2}},
		{Type: "", Field: "", Parts: []int{7}}, {Type: "v", Field: "x", Parts: []int{5}},
	}}
	for _, one := range []struct{ of, field, want string }{{"u", "x", "[3 -1 3]"}, {"u", "y", "[]"}, {"", "", "[7]"}, {"v", "x", "[5]"}, {"v", "y", "[]"}, {"x", "u", "[]"}, {"u", "", "[]"}, {"", "x", "[]"}} {
		if got := impl.ChartOwner(c, one.of, one.field); fmt.Sprint(got) != one.want {
			t.Errorf("%s.%s: %v, want %s", one.of, one.field, got, one.want)
		}
	}
	if got := impl.ChartOwner(impl.Chart{All: base()}, "user", "id"); len(got) != 0 {
		t.Errorf("without owners: %v", got)
	}
}

// What is told of any All that is ok, whoever made it; nothing of one that is not.
func TestChartText(t *testing.T) {
	for _, c := range []struct{ all, want string }{
		{"part all\ntype query\n  n int\n", "part all\ntype query\n  n int\n"},
		{"part all\ntype query\n  n int hidden\n", "part all\n"},
		{"part all\ntype query\n  n int hidden\n  m int\ntype u key id\n  id int!\n", "part all\ntype query\n  m int\ntype u\n  id int!\n"},
		{"part all\ntype query\n  n int\ntype u\n  x int hidden\n  y int hidden\ntype v\n  x int\n", "part all\ntype query\n  n int\ntype v\n  x int\n"},
		{"part all\ntype query\n  n u\ntype u\n  x int hidden\n", "part all\ntype query\n  n u\n"},
		{"part all\ntype query\n  n int hidden\ntype u\n  x int\n", "part all\ntype u\n  x int\n"},
		{"part z\ntype query\n  n [u]! far\n  m [u]! shared\n  k int hidden shared\ntype u key id\n  id int! shared\n  r int shared needs id\n  s int hidden needs id\n", "part z\ntype query\n  n [u]! far\n  m [u]! shared\ntype u\n  id int! shared\n  r int shared\n"},
	} {
		if got := impl.ChartText(impl.Chart{All: part(t, c.all)}); got != c.want {
			t.Errorf("%q is told as %q, want %q", c.all, got, c.want)
		}
	}
	for _, all := range []impl.Part{{}, {Name: "a"}, {Name: "a", Types: []impl.Type{{Name: "query"}}}, with(1, impl.Field{Name: "id", Of: "int"}), tooLong()} {
		if got := impl.ChartText(impl.Chart{All: all, Owners: []impl.Owner{{Type: "query", Field: "n", Parts: []int{0}}}}); got != "" {
			t.Errorf("%v is told as %q", all, got)
		}
	}
	// With fields in a type that are Hidden there would be too many of them: it is All that must be ok.
	if got := impl.ChartText(impl.Chart{All: with(0, slices.Repeat([]impl.Field{{Name: "x", Of: "int", Hidden: true}}, 8)...)}); got != "" {
		t.Errorf("too many fields are told as %q", got)
	}
}

// All codes and charts by chance are as by hand.
func TestChartByChance(t *testing.T) {
	r := rand.New(rand.NewSource(41))
	var codes [9]int
	for range 15000 {
		parts := anyCrew(r)
		for range r.Intn(4) {
			parts = nearCrew(r, parts)
		}
		c, fault := wantChart(t, parts)
		codes[fault.Code]++
		if fault.Code == 0 && impl.ChartText(c) != toldByHand(c.All) {
			t.Fatalf("%v is told as %q", c.All, impl.ChartText(c))
		}
		if fault.Code != 0 && !isNothing(c) {
			t.Fatalf("%v, but with %v", fault, c)
		}
	}
	for code, n := range codes {
		if n < 80 {
			t.Errorf("the code %d only %d times: %v", code, n, codes)
		}
	}
}

// P21: All has each field of each part, of the same Of, List and Must, Hidden if any has it, and nothing else; each of Owners has parts that know it.
func TestP21(t *testing.T) {
	r := rand.New(rand.NewSource(42))
	for range 4000 {
		parts, c := aChart(r)
		had := map[string]int{}
		hidden := map[string]int{}
		for _, l := range linesOf(parts) {
			f, ok := impl.PartField(c.All, l.kind.Name, l.f.Name)
			if !ok || f.Of != l.f.Of || f.List != l.f.List || f.Must != l.f.Must {
				t.Fatalf("%s%v of All", partsByHand(parts), f)
			}
			had[l.kind.Name+"."+l.f.Name]++
			if l.f.Hidden {
				hidden[l.kind.Name+"."+l.f.Name]++
			}
		}
		fields := 0
		for _, kind := range c.All.Types {
			for _, f := range kind.Fields {
				name := kind.Name + "." + f.Name
				if had[name] == 0 || f.Hidden != (hidden[name] > 0) || c.Owners[fields].Type != kind.Name || c.Owners[fields].Field != f.Name {
					t.Fatalf("%s%v of All", partsByHand(parts), f)
				}
				fields++
			}
		}
		if len(had) != fields || len(c.Owners) != fields {
			t.Fatalf("%s%d fields, but %d owners", partsByHand(parts), fields, len(c.Owners))
		}
		for _, o := range c.Owners {
			if len(o.Parts) == 0 || slices.ContainsFunc(o.Parts, func(at int) bool {
				f, ok := lookUp(parts[at], o.Type, o.Field)
				return !ok || f.Far
			}) {
				t.Fatalf("%s%v", partsByHand(parts), o)
			}
		}
	}
}

// P22: ChartOwner is ascending, and not empty just if All has the field.
func TestP22(t *testing.T) {
	r := rand.New(rand.NewSource(43))
	for range 4000 {
		parts, c := aChart(r)
		for _, of := range []string{"query", "u", "v", "w", ""} {
			for _, field := range []string{"x", "age", "b", "name", "pal", "rank", "id", "no", "neast", "zz", ""} {
				got := impl.ChartOwner(c, of, field)
				_, there := lookUp(c.All, of, field)
				if there != (len(got) > 0) || !slices.IsSorted(got) || len(slices.Compact(slices.Clone(got))) != len(got) {
					t.Fatalf("%s%s.%s: %v", partsByHand(parts), of, field, got)
				}
				for at := range parts {
					f, ok := lookUp(parts[at], of, field)
					if slices.Contains(got, at) != (ok && !f.Far) {
						t.Fatalf("%s%s.%s: %v", partsByHand(parts), of, field, got)
					}
				}
			}
		}
	}
}

// P23: parts the other way round make a chart just if they do; then PartBreaks of both All is empty, both ways.
func TestP23(t *testing.T) {
	r := rand.New(rand.NewSource(44))
	charts := 0
	for i := range 12000 {
		parts := anyCrew(r)
		for range i % 3 {
			parts = nearCrew(r, parts)
		}
		back := slices.Clone(parts)
		slices.Reverse(back)
		c, fault := impl.ChartMake(parts)
		d, other := impl.ChartMake(back)
		if (fault.Code == 0) != (other.Code == 0) {
			t.Fatalf("%s%v, but %v", partsByHand(parts), fault, other)
		}
		if fault.Code != 0 {
			continue
		}
		charts++
		if lost := append(impl.PartBreaks(c.All, d.All), impl.PartBreaks(d.All, c.All)...); len(lost) > 0 {
			t.Fatalf("%s%v", partsByHand(parts), lost)
		}
		if len(impl.PartWrite(c.All)) != len(impl.PartWrite(d.All)) {
			t.Fatalf("%s%v, but %v", partsByHand(parts), c.All, d.All)
		}
	}
	if charts < 3000 {
		t.Errorf("only %d charts", charts)
	}
}

// P24: ChartMake of All alone is a chart with the same All.
func TestP24(t *testing.T) {
	r := rand.New(rand.NewSource(45))
	for range 4000 {
		parts, c := aChart(r)
		again, fault := wantChart(t, []impl.Part{c.All})
		if fault.Code != 0 || !same(again.All, c.All) || impl.ChartText(again) != impl.ChartText(c) {
			t.Fatalf("%s%v, %v", partsByHand(parts), again, fault)
		}
	}
}

// P25: ChartText has a line for `part`, and for each type of which something is not Hidden one, and one for each such field.
func TestP25(t *testing.T) {
	r := rand.New(rand.NewSource(46))
	for i := range 4000 {
		parts, c := aChart(r)
		if i%2 == 0 {
			for j := range c.All.Types {
				for k := range c.All.Types[j].Fields {
					f := &c.All.Types[j].Fields[k]
					f.Hidden = f.Hidden || f.Name != c.All.Types[j].Key && r.Intn(2) == 0
				}
			}
		}
		lines := 1
		for _, kind := range c.All.Types {
			told := slices.DeleteFunc(slices.Clone(kind.Fields), func(f impl.Field) bool { return f.Hidden })
			lines += len(told)
			if len(told) > 0 {
				lines++
			}
		}
		got := impl.ChartText(c)
		if strings.Count(got, "\n") != lines || !strings.HasSuffix(got, "\n") || !strings.HasPrefix(got, "part a\n") || got != toldByHand(c.All) {
			t.Fatalf("%s%q", partsByHand(parts), got)
		}
		if strings.Contains(got, " hidden") || strings.Contains(got, " needs") || strings.Contains(got, " key") {
			t.Fatalf("%s%q", partsByHand(parts), got)
		}
	}
}

// P26: a part that is ok and has nothing Far makes a chart alone, and PartBreaks of it and All is empty.
func TestP26(t *testing.T) {
	r := rand.New(rand.NewSource(47))
	for range 6000 {
		p := anyPart(r)
		for i := range p.Types {
			for j := range p.Types[i].Fields {
				p.Types[i].Fields[j].Far = false
			}
		}
		c, fault := wantChart(t, []impl.Part{p})
		if fault.Code != 0 || len(impl.PartBreaks(p, c.All)) > 0 || len(impl.PartBreaks(c.All, p)) > 0 || len(c.All.Types) != len(p.Types) {
			t.Fatalf("%smakes %v, %v", byHand(p), c, fault)
		}
		for _, o := range c.Owners {
			if !slices.Equal(o.Parts, []int{0}) {
				t.Fatalf("%s%v", byHand(p), o)
			}
		}
	}
	p := base()
	wantChartFault(t, []impl.Part{p}, 1, "user", "age", impl.ChartFar)
	p.Types[1].Fields[1].Far, p.Types[2].Fields[3].Far = false, false
	wantChartFault(t, []impl.Part{p}, 0, "", "", 0)
}
