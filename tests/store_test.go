package tests

import (
	"fmt"
	"math/rand"
	"slices"
	"strings"
	"testing"

	"loop.example/portolan/impl"
)

// shopText has types with a key and without, and fields that are Far.
const shopText = "part shop\n" +
	"type query\n  n int\n  top user\n  off int far\n" +
	"type user key id\n  name text\n  id int!\n  far1 text! far\n  pals [user]\n" +
	"type item\n  w int!\n" +
	"type note key no\n  no int!\n"

func shop(t *testing.T) (impl.Part, []impl.Row) {
	t.Helper()
	return part(t, shopText), []impl.Row{
		row("query", 0, "n,top", number(4), number(1)),
		row("user", 1, "name,id,pals", text("ann"), number(1), list(number(2), null(), number(9))),
		row("user", 2, "name,id,pals", null(), number(2), bad()),
		row("item", 0, "w", number(3)),
		row("item", 5, "w", bad()),
		row("note", 999999, "no", number(999999)),
	}
}

// With what is wrong at one place of a store it is none.
func TestStoreOk(t *testing.T) {
	p, rows := shop(t)
	wantStore(t, "all", p, rows, true)
	wantStore(t, "only query", p, rows[:1], true)
	wantStore(t, "no users", p, append(slices.Clone(rows[:1]), rows[3:]...), true)
	wantStore(t, "none", p, nil, false)
	wantStore(t, "empty", p, []impl.Row{}, false)
	for _, c := range []struct {
		what   string
		change func(rows []impl.Row) []impl.Row
	}{
		{"no query", func(rows []impl.Row) []impl.Row { return rows[1:] }},
		{"query 1", func(rows []impl.Row) []impl.Row { rows[0].Id = 1; return rows }},
		{"query -1", func(rows []impl.Row) []impl.Row { rows[0].Id = -1; return rows }},
		{"query twice", func(rows []impl.Row) []impl.Row { return slices.Insert(rows, 1, deep(rows[0])) }},
		{"query 0 and 1", func(rows []impl.Row) []impl.Row {
			more := deep(rows[0])
			more.Id = 1
			return slices.Insert(rows, 1, more)
		}},
		{"query behind", func(rows []impl.Row) []impl.Row { return append(rows, deep(rows[0])) }},
		{"query 1 behind", func(rows []impl.Row) []impl.Row {
			more := deep(rows[0])
			more.Id = 1
			return append(rows, more)
		}},
		{"query second", func(rows []impl.Row) []impl.Row { rows[0], rows[1] = rows[1], rows[0]; return rows }},
		{"types out of order", func(rows []impl.Row) []impl.Row { rows[2], rows[3] = rows[3], rows[2]; return rows }},
		{"a type at two places", func(rows []impl.Row) []impl.Row {
			more := deep(rows[3])
			more.Id = 7
			return append(rows, more)
		}},
		{"numbers descending", func(rows []impl.Row) []impl.Row { rows[1], rows[2] = rows[2], rows[1]; return rows }},
		{"a number twice", func(rows []impl.Row) []impl.Row { rows[4].Id = 0; return rows }},
		{"a row twice", func(rows []impl.Row) []impl.Row { return slices.Insert(rows, 2, deep(rows[1])) }},
		{"below 0", func(rows []impl.Row) []impl.Row { rows[3].Id = -1; return rows }},
		{"the key below 0", func(rows []impl.Row) []impl.Row {
			rows[1].Id, rows[1].Cells[1].Value = -1, number(-1)
			return rows
		}},
		{"beyond JsonMaxNum", func(rows []impl.Row) []impl.Row { rows[4].Id = 1000000; return rows }},
		{"the key beyond JsonMaxNum", func(rows []impl.Row) []impl.Row {
			rows[5].Id, rows[5].Cells[0].Value = 1000000, number(1000000)
			return rows
		}},
		{"a type that is not there", func(rows []impl.Row) []impl.Row { rows[5].Type = "zz"; return rows }},
		{"a type that is not there at first", func(rows []impl.Row) []impl.Row { rows[0].Type = "zz"; return rows }},
		{"no type", func(rows []impl.Row) []impl.Row { rows[5].Type = ""; return rows }},
		{"no type and no cells", func(rows []impl.Row) []impl.Row { return append(rows, impl.Row{Id: 1}) }},
		{"a cell less", func(rows []impl.Row) []impl.Row { rows[1].Cells = rows[1].Cells[:2]; return rows }},
		{"the first cell less", func(rows []impl.Row) []impl.Row { rows[1].Cells = rows[1].Cells[1:]; return rows }},
		{"no cells", func(rows []impl.Row) []impl.Row { rows[0].Cells = nil; return rows }},
		{"a cell more", func(rows []impl.Row) []impl.Row {
			rows[1].Cells = append(rows[1].Cells, impl.Cell{Name: "zz", Value: null()})
			return rows
		}},
		{"a cell that is Far", func(rows []impl.Row) []impl.Row {
			rows[1].Cells = slices.Insert(rows[1].Cells, 2, impl.Cell{Name: "far1", Value: text("x")})
			return rows
		}},
		{"a cell of query that is Far", func(rows []impl.Row) []impl.Row {
			rows[0].Cells = append(rows[0].Cells, impl.Cell{Name: "off", Value: null()})
			return rows
		}},
		{"a cell twice", func(rows []impl.Row) []impl.Row {
			rows[0].Cells = append(rows[0].Cells, rows[0].Cells[1])
			return rows
		}},
		{"one cell instead of another", func(rows []impl.Row) []impl.Row { rows[0].Cells[1].Name = "n"; return rows }},
		{"cells out of order", func(rows []impl.Row) []impl.Row {
			c := rows[1].Cells
			c[0], c[2] = c[2], c[0]
			return rows
		}},
		{"a value that does not fit", func(rows []impl.Row) []impl.Row { rows[0].Cells[0].Value = text("x"); return rows }},
		{"null that must be there", func(rows []impl.Row) []impl.Row { rows[3].Cells[0].Value = null(); return rows }},
		{"another key", func(rows []impl.Row) []impl.Row { rows[1].Cells[1].Value = number(3); return rows }},
		{"a key that cannot be read", func(rows []impl.Row) []impl.Row { rows[1].Cells[1].Value = bad(); return rows }},
		{"a key that is null", func(rows []impl.Row) []impl.Row { rows[1].Cells[1].Value = null(); return rows }},
		{"a key that is a text", func(rows []impl.Row) []impl.Row { rows[1].Cells[1].Value = text("1"); return rows }},
	} {
		wantStore(t, c.what, p, c.change(deep(rows)), false)
	}
	p.Types[0].Name = "root"
	wantStore(t, "a part that is not ok", p, rows, false)
	wantStore(t, "nothing", impl.Part{}, nil, false)
}

// A key of 0, and numbers at both ends.
func TestStoreNumbers(t *testing.T) {
	p, rows := shop(t)
	rows[1].Id, rows[1].Cells[1].Value = 0, number(0)
	wantStore(t, "a key of 0", p, rows, true)
	rows[4].Id = 999999
	wantStore(t, "JsonMaxNum without a key", p, rows, true)
	rows[1].Cells[1].Value = truth(false)
	wantStore(t, "a key that is a bool", p, rows, false)
}

func TestStoreMaxRows(t *testing.T) {
	p, _ := shop(t)
	rows := []impl.Row{row("query", 0, "n,top", null(), null())}
	for len(rows) < 16 {
		rows = append(rows, row("item", len(rows), "w", number(1)))
	}
	wantStore(t, "16 rows", p, rows, true)
	rows = append(rows, row("note", 1, "no", number(1)))
	wantStore(t, "17 rows", p, rows, false)
	for len(rows) < 100 {
		rows = append(rows, row("note", len(rows), "no", number(len(rows))))
	}
	wantStore(t, "100 rows", p, rows, false)
	if got := impl.StoreCut(p, rows); len(got) != 100 {
		t.Errorf("of 100 rows %d are cut", len(got))
	}
}

// Which values fit a field of a word or of a type, with List and without, with Must and without.
func TestStoreFits(t *testing.T) {
	long := strings.Repeat("x", 24)
	for _, c := range []struct {
		v impl.Value
		// What a field may be of that the value fits, and whether it is a List.
		of   string
		list bool
	}{
		{number(0), "int user", false},
		{number(999999), "int user", false},
		{number(-999999), "int user", false},
		{number(-1), "int user", false},
		{number(1000000), "", false},
		{number(-1000000), "", false},
		{text(""), "text", false},
		{text(long), "text", false},
		{text(long + "x"), "", false},
		{text("é"), "", false},
		{text("\n"), "", false},
		{text(`"\~ `), "text", false},
		{truth(false), "bool", false},
		{truth(true), "bool", false},
		{impl.Value{Sort: impl.JsonBool, Num: 2}, "", false},
		{impl.Value{Sort: impl.JsonInt, Text: "1"}, "", false},
		{impl.Value{Sort: impl.JsonInt, Kids: []impl.Value{null()}}, "", false},
		{impl.Value{Sort: impl.JsonText, Num: 1}, "", false},
		{impl.Value{Sort: impl.JsonText, Names: []string{"a"}}, "", false},
		{object(""), "", false},
		{object("id", number(1)), "", false},
		{impl.Value{}, "", false},
		{impl.Value{Sort: 8}, "", false},
		{impl.Value{Sort: -7}, "", false},
		{list(), "int text bool user", true},
		{list(null()), "int text bool user", true},
		{list(null(), null(), null()), "int text bool user", true},
		{list(null(), null(), null(), null()), "", true},
		{list(number(1)), "int user", true},
		{list(number(1), null(), number(-999999)), "int user", true},
		{list(number(1), number(1), number(1)), "int user", true},
		{list(number(1), number(2), number(3), number(4)), "", true},
		{list(number(1), number(1000000)), "", true},
		{list(text("a"), text(long), null()), "text", true},
		{list(text("a"), text("b"), text("c"), text("d")), "", true},
		{list(text(long + "x")), "", true},
		{list(truth(true), null(), truth(false)), "bool", true},
		{list(truth(true), truth(true), truth(true), null()), "", true},
		{list(number(1), text("a")), "", true},
		{list(truth(true), number(1)), "", true},
		{list(list()), "", true},
		{list(list(number(1))), "", true},
		{list(object("")), "", true},
		{list(bad()), "", true},
		{list(number(1), bad()), "", true},
		{list(null(), bad(), null()), "", true},
		{list(impl.Value{Sort: impl.JsonNull, Num: 1}), "", true},
		{impl.Value{Sort: impl.JsonList, Num: 1}, "", true},
		{impl.Value{Sort: impl.JsonList, Text: "x"}, "", true},
		{impl.Value{Sort: impl.JsonList, Names: []string{"a"}, Kids: []impl.Value{null()}}, "", true},
		{impl.Value{Sort: impl.JsonNull, Num: 1}, "", false},
		{impl.Value{Sort: impl.JsonNull, Text: "x"}, "", false},
		{impl.Value{Sort: impl.JsonNull, Kids: []impl.Value{null()}}, "", false},
		{impl.Value{Sort: impl.Bad, Num: 1}, "", false},
		{impl.Value{Sort: impl.Bad, Text: "x"}, "", false},
		{impl.Value{Sort: impl.Bad, Names: []string{"x"}}, "", false},
		{impl.Value{Sort: impl.Bad, Kids: []impl.Value{bad()}}, "", false},
	} {
		wantFits(t, c.v, func(f impl.Field) bool {
			return c.list == f.List && slices.Contains(strings.Fields(c.of), f.Of)
		})
	}
	wantFits(t, null(), func(f impl.Field) bool { return !f.Must })
	wantFits(t, bad(), func(f impl.Field) bool { return true })
}

// wantFits fails if a value fits a field otherwise than told, for each that a field may be of.
func wantFits(t *testing.T, v impl.Value, fits func(f impl.Field) bool) {
	t.Helper()
	for _, of := range []string{"int", "text", "bool", "user"} {
		for i := range 4 {
			f := impl.Field{Name: "n", Of: of, List: i%2 == 1, Must: i > 1}
			p := impl.Part{Name: "a", Types: []impl.Type{{Name: "query", Fields: []impl.Field{f}}, {Name: "user", Fields: []impl.Field{f}}}}
			inner := null()
			if f.Must {
				inner = bad()
			}
			wantStore(t, fmt.Sprintf("%v of %s", v, fieldByHand(f)), p, []impl.Row{row("query", 0, "n", v)}, fits(f))
			wantStore(t, fmt.Sprintf("%v of %s", v, fieldByHand(f)), p, []impl.Row{row("query", 0, "n", inner), row("user", 3, "n", v)}, fits(f))
		}
	}
}

// What a part has of rows: its types in its order, the fields that it knows in their order, null where there is none.
func TestStoreCut(t *testing.T) {
	p, _ := shop(t)
	all := []impl.Row{
		row("note", 3, "zz,no", number(1), number(3)),
		row("user", 2, "pals,id,far1,name,id", list(), number(2), text("x"), text("bob"), number(7)),
		row("zz", 1, "n", number(1)),
		row("query", 0, "top", number(1)),
		row("user", 2, "id", number(2)),
		row("user", 1, ""),
		row("query", 9, "n,n", bad(), number(1)),
		row("", 0, ""),
	}
	want := []impl.Row{
		row("query", 0, "n,top", null(), number(1)),
		row("query", 9, "n,top", bad(), null()),
		row("user", 2, "name,id,pals", text("bob"), number(2), list()),
		row("user", 2, "name,id,pals", null(), number(2), null()),
		row("user", 1, "name,id,pals", null(), null(), null()),
		row("note", 3, "no", number(3)),
	}
	got := impl.StoreCut(p, all)
	if !same(got, want) {
		t.Errorf("cut to %v", got)
	}
	if again := impl.StoreCut(p, got); !same(again, want) {
		t.Errorf("cut again to %v", again)
	}
	if got := impl.StoreCut(p, nil); !isNothing(got) {
		t.Errorf("of nothing there is %v", got)
	}
	p.Types[3].Key = "zz"
	if got := impl.StoreCut(p, all); !isNothing(got) {
		t.Errorf("of a part that is not ok there is %v", got)
	}
	far := part(t, "part a\ntype query\n  n int far\ntype user\n  b int far\n")
	if got := impl.StoreCut(far, all); !same(got, []impl.Row{row("query", 0, ""), row("query", 9, ""), row("user", 2, ""), row("user", 2, ""), row("user", 1, "")}) {
		t.Errorf("of what is all Far there is %v", got)
	}
	wantStore(t, "all Far", far, []impl.Row{row("query", 0, ""), row("user", 1, ""), row("user", 2, "")}, true)
}

// What is cut need not be ok: a value stays as it is.
func TestStoreStrangeValues(t *testing.T) {
	p := part(t, "part a\ntype query\n  n int\n")
	deepest := deepList(100)
	for _, v := range []impl.Value{{}, {Sort: 99, Num: -5}, {Sort: impl.Bad, Num: 3}, {Sort: impl.JsonObj, Names: []string{"A", "A"}}, deepest, list(slices.Repeat([]impl.Value{number(1)}, 5000)...), text(strings.Repeat("\x00", 5000))} {
		rows := []impl.Row{row("query", 0, "n", v)}
		got, ok := impl.StoreGet(rows, "query", 0, "n")
		if !ok || !same(got, v) || !same(impl.StoreCut(p, rows), rows) {
			t.Errorf("%.60v: %.60v, %v", v, got, ok)
		}
	}
}

func TestStoreGet(t *testing.T) {
	rows := []impl.Row{
		row("user", 1, "name,name,age", text("a"), text("b"), bad()),
		row("user", 2, "name", text("c")),
		row("user", 1, "name,age,rank", text("d"), number(1), number(5)),
		row("query", 1, "name", null()),
		row("", -1, "", null()),
	}
	rows[4].Cells[0].Name = ""
	for _, c := range []struct {
		of    string
		id    int
		field string
		want  impl.Value
		ok    bool
	}{
		{"user", 1, "name", text("a"), true},
		{"user", 1, "age", bad(), true},
		{"user", 2, "name", text("c"), true},
		{"query", 1, "name", null(), true},
		{"", -1, "", null(), true},
		{"user", 1, "rank", impl.Value{}, false},
		{"user", 2, "age", impl.Value{}, false},
		{"user", 3, "name", impl.Value{}, false},
		{"query", 0, "name", impl.Value{}, false},
		{"users", 1, "name", impl.Value{}, false},
		{"user", 1, "", impl.Value{}, false},
		{"", 1, "name", impl.Value{}, false},
	} {
		got, ok := impl.StoreGet(rows, c.of, c.id, c.field)
		if ok != c.ok || !same(got, c.want) {
			t.Errorf("%s %d %s: %v, %v", c.of, c.id, c.field, got, ok)
		}
	}
	if got, ok := impl.StoreGet(nil, "query", 0, "n"); ok || !isNothing(got) {
		t.Errorf("of no rows there is %v", got)
	}
}

// P12: what a part has of all is a store of it, and says what all say; cut again it is the same.
func TestP12(t *testing.T) {
	r := rand.New(rand.NewSource(31))
	for i := range 2000 {
		p := anyPart(r)
		rows := anyStore(r, p, i%2 == 0)
		cut := impl.StoreCut(p, rows)
		if !impl.StoreOk(p, cut) || !isStoreByHand(p, cut) {
			t.Fatalf("%v of %v is no store of %v", cut, rows, p)
		}
		wantCut(t, p, rows, cut)
		for range 1 + r.Intn(3) {
			rows = breakStore(r, rows)
		}
		wantCut(t, p, rows, impl.StoreCut(p, rows))
		wantStore(t, "broken", p, rows, isStoreByHand(p, rows))
	}
}

// wantCut fails if what is cut says otherwise than the rows of which it is, or is cut again to something else.
func wantCut(t *testing.T, p impl.Part, rows, cut []impl.Row) {
	t.Helper()
	if !same(cut, cutByHand(p, rows)) || !same(impl.StoreCut(p, cut), cut) {
		t.Fatalf("%v is cut to %v", rows, cut)
	}
	for _, one := range cut {
		alike := 0
		for _, o := range rows {
			if o.Type == one.Type && o.Id == one.Id {
				alike++
			}
		}
		for _, c := range one.Cells {
			v, ok := impl.StoreGet(rows, one.Type, one.Id, c.Name)
			if alike == 1 && (ok && !same(v, c.Value) || !ok && !same(c.Value, null())) {
				t.Fatalf("%s %d %s is %v, but cut %v", one.Type, one.Id, c.Name, v, c.Value)
			}
		}
	}
}
