package tests

import (
	"fmt"
	"math/rand"
	"regexp"
	"slices"
	"strings"
	"testing"

	"loop.example/portolan/impl"
)

func change(of string, id int, field string, v impl.Value) impl.Change {
	return impl.Change{Type: of, Id: id, Field: field, Value: v}
}

func TestChangeWrite(t *testing.T) {
	for _, c := range []struct {
		c    impl.Change
		want string
	}{
		{change("user", 2, "age", number(40)), "user 2 age 40"},
		{change("query", 0, "users", list(number(1), null())), "query 0 users [1,null]"},
		{change("u", 999999, "abcdefgh", text(`a b "\`)), `u 999999 abcdefgh "a b \"\\"`},
		{change("u", 1, "x", null()), "u 1 x null"},
		{change("u", 1, "x", object("a,_id", truth(true), list())), `u 1 x {"a":true,"_id":[]}`},
		{change("", 1, "x", null()), ""},
		{change("int", 1, "x", null()), ""},
		{change("u v", 1, "x", null()), ""},
		{change("_u", 1, "x", null()), ""},
		{change("u", 1, "", null()), ""},
		{change("u", 1, "key", null()), ""},
		{change("u", 1, "abcdefghi", null()), ""},
		{change("u", -1, "x", null()), ""},
		{change("u", 1000000, "x", null()), ""},
		{change("u", 1, "x", impl.Value{}), ""},
		{change("u", 1, "x", bad()), ""},
		{change("u", 1, "x", badBy(1)), ""},
		{change("u", 1, "x", number(1000000)), ""},
		{change("u", 1, "x", text("\n")), ""},
		{change("u", 1, "x", levels(17)), ""},
		{impl.Change{}, ""},
	} {
		if got := impl.ChangeWrite(c.c); got != c.want {
			t.Errorf("%v is written %q, want %q", c.c, got, c.want)
		}
		got, ok := impl.ChangeRead(c.want)
		if ok != (c.want != "") || ok && !same(got, c.c) || !ok && !isNothing(got) {
			t.Errorf("%q is read as %v, %v", c.want, got, ok)
		}
	}
}

func TestChangeReadRefuses(t *testing.T) {
	for _, line := range []string{"", " ", "user", "user 2", "user 2 age", "user 2 age ", " user 2 age 40", "user  2 age 40", "user 2  age 40", "user 2 age  40", "user 2 age 40 ", "user 2 age 40\n", "user 02 age 40", "user -2 age 40", "user -0 age 40", "user +2 age 40", "user 2.0 age 40", "user x age 40", "user  age 40", "user 1000000 age 40", "user 99999999999999999999 age 40", "user 2 age 040", "user 2 age -0", "user 2 age 1000000", "user 2 age x", "user 2 age \"", "user 2 age [1, 2]", "user 2 age {\"A\":1}", "User 2 age 40", "int 2 age 40", "user 2 far 40", "_user 2 age 40", "user 2 _age 40", "abcdefghi 2 age 40", "user\t2 age 40", "user 2 age true false", "user 2 age \"" + strings.Repeat("a", 25) + "\"", "set user 2 age 40"} {
		if got, ok := impl.ChangeRead(line); ok || !isNothing(got) {
			t.Errorf("%q is read as %v", line, got)
		}
	}
}

// P39: ChangeRead of ChangeWrite is the change; what ChangeRead reads ChangeWrite writes.
func TestP39(t *testing.T) {
	r := rand.New(rand.NewSource(100))
	form := regexp.MustCompile(`^([^ ]*) (0|[1-9][0-9]{0,5}) ([^ ]*) (.*)$`)
	written, read := 0, 0
	names := []string{"user", "query", "u", "abcdefgh", "z9_", "", "int", "_a", "a b", "abcdefghi"}
	for range 20000 {
		c := change(names[r.Intn(len(names)-r.Intn(6))], []int{0, 1, 10, 999999, -1, 1000000, r.Intn(999999)}[r.Intn(7)], names[r.Intn(len(names)-r.Intn(6))], anyValue(r, 2))
		line := impl.ChangeWrite(c)
		ok := isNameByHand(c.Type) && isNameByHand(c.Field) && c.Id >= 0 && c.Id <= 999999
		if (line != "") != ok || ok && line != fmt.Sprint(c.Type, " ", c.Id, " ", c.Field, " ", impl.JsonWrite(c.Value)) {
			t.Fatalf("%v is written %q", c, line)
		}
		got, back := impl.ChangeRead(line)
		if back != ok || ok && !same(got, c) {
			t.Fatalf("%q is read as %v, %v", line, got, back)
		}
		if !ok {
			continue
		}
		written++
		b := []byte(line)
		b[r.Intn(len(b))] = " 0-\"z_["[r.Intn(7)]
		near := string(b)
		got, back = impl.ChangeRead(near)
		if back && impl.ChangeWrite(got) != near || !back && !isNothing(got) {
			t.Fatalf("%q is read as %v, %v", near, got, back)
		}
		m := form.FindStringSubmatch(near)
		want := m != nil && isNameByHand(m[1]) && isNameByHand(m[3])
		if want {
			_, want = impl.JsonRead(m[4])
		}
		if back != want {
			t.Fatalf("%q: read %v, want %v", near, back, want)
		}
		if back {
			read++
		}
	}
	if written < 3000 || read < 1000 {
		t.Errorf("%d written, %d near ones read", written, read)
	}
}

// setByHand is what a change says of the stores of parts, by all: an independent account. Of SetRow it is one part that is all.
func setByHand(all impl.Part, parts []impl.Part, stores [][]impl.Row, c impl.Change) ([][]impl.Row, int) {
	out := deep(stores)
	var owners, having []int
	for i, p := range parts {
		if known, _, _ := knowsByHand(p, c.Type, c.Field); known {
			owners = append(owners, i)
			if _, there := getByHand(stores[i], c.Type, c.Id, c.Field); there {
				having = append(having, i)
			}
		}
	}
	f, _ := lookUp(all, c.Type, c.Field)
	key := ""
	for _, kind := range all.Types {
		if kind.Name == c.Type {
			key = kind.Key
		}
	}
	switch {
	case len(owners) == 0:
		return out, 1
	case !slices.Contains(having, owners[0]):
		return out, 2
	case c.Field == key:
		return out, 3
	case c.Value.Sort == impl.Bad || !isFitByHand(f, c.Value):
		return out, 4
	case len(having) < len(owners):
		return out, 2
	}
	for _, i := range owners {
		for j := range out[i] {
			if out[i][j].Type == c.Type && out[i][j].Id == c.Id {
				at := slices.IndexFunc(out[i][j].Cells, func(cell impl.Cell) bool { return cell.Name == c.Field })
				out[i][j].Cells[at].Value = deep(c.Value)
			}
		}
	}
	return out, 0
}

// wantSet fails if a change of parts with stores that are ok is done otherwise than by hand, and tells what it does.
func wantSet(t *testing.T, parts []impl.Part, stores [][]impl.Row, c impl.Change) ([][]impl.Row, int) {
	t.Helper()
	chart, _ := impl.ChartMake(parts)
	got, code := impl.SetParts(parts, stores, c)
	want, expected := setByHand(chart.All, parts, stores, c)
	if code != expected || !same(got, want) {
		t.Fatalf("%s%v: %v, %d, want %v, %d", partsByHand(parts), c, got, code, want, expected)
	}
	return got, code
}

func TestSetRow(t *testing.T) {
	p := crew(t, "a; type query; n int; ns [int]; us [u]!; u u; f int far; type u key id; id int!; x int; y text!; r int needs x; b bool; type v; z int")[0]
	rows := []impl.Row{row("query", 0, "n,ns,us,u", number(1), list(), list(number(1)), bad()), row("u", 1, "id,x,y,r,b", number(1), number(2), text("a"), null(), null()), row("u", 7, "id,x,y,r,b", number(7), bad(), text("b"), number(3), truth(true))}
	broken := deep(rows)
	broken[1].Cells[0].Value = number(2)
	for _, c := range []struct {
		c    impl.Change
		code int
	}{
		{change("u", 1, "x", number(5)), 0},
		{change("u", 7, "x", null()), 0},
		{change("u", 7, "r", number(-999999)), 0},
		{change("u", 1, "b", truth(false)), 0},
		{change("u", 1, "y", text("")), 0},
		{change("query", 0, "n", null()), 0},
		{change("query", 0, "ns", list(number(1), null(), number(-1))), 0},
		{change("query", 0, "us", list()), 0},
		{change("query", 0, "u", number(99)), 0},
		{change("u", 1, "zz", number(1)), impl.SetUnknown},
		{change("zz", 1, "x", number(1)), impl.SetUnknown},
		{change("", 0, "", impl.Value{}), impl.SetUnknown},
		{change("query", 0, "f", number(1)), impl.SetUnknown},
		{change("u", 1, "n", number(1)), impl.SetUnknown},
		{change("u", 2, "x", number(1)), impl.SetNoRow},
		{change("u", -1, "x", number(1)), impl.SetNoRow},
		{change("query", 1, "n", number(1)), impl.SetNoRow},
		{change("v", 0, "z", number(1)), impl.SetNoRow},
		{change("u", 1, "id", number(1)), impl.SetBadKey},
		{change("u", 1, "id", number(2)), impl.SetBadKey},
		{change("u", 1, "x", text("5")), impl.SetUnfit},
		{change("u", 1, "x", bad()), impl.SetUnfit},
		{change("u", 1, "x", badBy(3)), impl.SetUnfit},
		{change("u", 1, "x", list(number(1))), impl.SetUnfit},
		{change("u", 1, "x", number(1000000)), impl.SetUnfit},
		{change("u", 1, "x", impl.Value{}), impl.SetUnfit},
		{change("u", 1, "y", null()), impl.SetUnfit},
		{change("u", 1, "b", number(1)), impl.SetUnfit},
		{change("query", 0, "ns", number(1)), impl.SetUnfit},
		{change("query", 0, "ns", list(number(1), number(1), number(1), number(1))), impl.SetUnfit},
		{change("query", 0, "ns", list(text("a"))), impl.SetUnfit},
		{change("query", 0, "us", null()), impl.SetUnfit},
		{change("query", 0, "u", object("")), impl.SetUnfit},
		// Of two the first.
		{change("u", 2, "zz", bad()), impl.SetUnknown},
		{change("u", 2, "id", bad()), impl.SetNoRow},
		{change("u", 2, "y", null()), impl.SetNoRow},
		{change("u", 1, "id", text("x")), impl.SetBadKey},
	} {
		got, code := impl.SetRow(p, rows, c.c)
		want, expected := setByHand(p, []impl.Part{p}, [][]impl.Row{rows}, c.c)
		if code != c.code || code != expected || !same(got, want[0]) {
			t.Errorf("%v: %v, %d, want %v, %d", c.c, got, code, want[0], c.code)
		}
		for _, none := range [][]impl.Row{nil, broken, rows[1:]} {
			if got, code := impl.SetRow(p, none, c.c); code != impl.SetUnknown || !isNothing(got) {
				t.Errorf("%v of what is no store: %v, %d", c.c, got, code)
			}
		}
		if got, code := impl.SetRow(impl.Part{}, rows, c.c); code != impl.SetUnknown || !isNothing(got) {
			t.Errorf("%v of no part: %v, %d", c.c, got, code)
		}
	}
}

func TestSetParts(t *testing.T) {
	told := []string{"a; type query; n int shared; type u key id; id int!; x int shared; y text! shared; o int", "b; type query; n int shared; type u key id; id int!; x int shared; y text! shared; w int hidden", "c; type query; k int; type u; id int!; x int shared; y text! shared"}
	v := sailing{parts: crew(t, told...)}
	v.stores = [][]impl.Row{
		{row("query", 0, "n", number(1)), row("u", 1, "id,x,y,o", number(1), number(10), text("a"), number(5)), row("u", 2, "id,x,y,o", number(2), number(20), text("b"), number(6))},
		{row("query", 0, "n", number(2)), row("u", 1, "id,x,y,w", number(1), number(11), text("c"), number(7)), row("u", 3, "id,x,y,w", number(3), number(30), text("d"), number(8))},
		{row("query", 0, "k", number(3)), row("u", 1, "id,x,y", number(4), number(12), text("e")), row("u", 2, "id,x,y", number(2), number(21), text("f"))},
	}
	for _, c := range []struct {
		c    impl.Change
		code int
	}{
		{change("query", 0, "n", number(9)), 0},
		{change("query", 0, "k", number(9)), 0},
		{change("u", 1, "x", number(9)), 0},
		{change("u", 1, "y", text("z")), 0},
		{change("u", 2, "o", null()), 0},
		{change("u", 3, "w", number(4)), 0},
		{change("u", 1, "zz", number(9)), impl.SetUnknown},
		{change("zz", 1, "x", number(9)), impl.SetUnknown},
		{change("u", 3, "x", number(9)), impl.SetNoRow},
		{change("u", 4, "x", number(9)), impl.SetNoRow},
		{change("u", 2, "x", number(9)), impl.SetNoRow},
		{change("u", 1, "w", number(9)), 0},
		{change("u", 2, "w", number(9)), impl.SetNoRow},
		{change("query", 5, "n", number(9)), impl.SetNoRow},
		// The key of All, though one of the parts that know it has none.
		{change("u", 1, "id", number(9)), impl.SetBadKey},
		{change("u", 1, "x", text("a")), impl.SetUnfit},
		{change("u", 1, "x", bad()), impl.SetUnfit},
		{change("u", 1, "y", null()), impl.SetUnfit},
		// Of two the first: the first part has no such row, the key, unfit, another part has none.
		{change("u", 3, "id", text("x")), impl.SetNoRow},
		{change("u", 3, "x", text("x")), impl.SetNoRow},
		{change("u", 2, "id", text("x")), impl.SetBadKey},
		{change("u", 2, "x", text("x")), impl.SetUnfit},
		{change("u", 2, "y", null()), impl.SetUnfit},
		{change("u", 2, "zz", bad()), impl.SetUnknown},
	} {
		if _, code := wantSet(t, v.parts, v.stores, c.c); code != c.code {
			t.Errorf("%v: %d, want %d", c.c, code, c.code)
		}
		far := crew(t, "a; type query; n int shared; type u key id; id int!; x int far")
		for _, no := range []struct {
			what   string
			parts  []impl.Part
			stores [][]impl.Row
		}{
			{"no chart", far, [][]impl.Row{{row("query", 0, "n", number(1))}}},
			{"no parts", nil, nil},
			{"parts twice", []impl.Part{v.parts[2], v.parts[2]}, [][]impl.Row{v.stores[2], v.stores[2]}},
			{"no stores", v.parts, nil},
			{"a store too few", v.parts, v.stores[:2]},
			{"a store too many", v.parts, append(slices.Clone(v.stores), v.stores[0])},
			{"an empty store", v.parts, [][]impl.Row{v.stores[0], v.stores[1], nil}},
			{"a store that is not ok", v.parts, [][]impl.Row{v.stores[0], v.stores[0], v.stores[2]}},
		} {
			if got, code := impl.SetParts(no.parts, no.stores, c.c); code != impl.SetUnknown || !isNothing(got) {
				t.Errorf("%s: %v, %d", no.what, got, code)
			}
			got, codes := impl.SetAll(no.parts, no.stores, []impl.Change{c.c, c.c}, []int{0})
			if !isNothing(got) || !isNothing(codes) {
				t.Errorf("%s: %v, %v", no.what, got, codes)
			}
		}
	}
}

// anyChange is a change by chance, mostly of something that is there.
func anyChange(r *rand.Rand, all impl.Part, rows []impl.Row) impl.Change {
	of := rows[r.Intn(len(rows))]
	kind := all.Types[slices.IndexFunc(all.Types, func(kind impl.Type) bool { return kind.Name == of.Type })]
	f := kind.Fields[r.Intn(len(kind.Fields))]
	c := change(of.Type, of.Id, f.Name, anyCell(r, f))
	switch r.Intn(16) {
	case 0:
		c.Type = []string{"", "zz", "u", "query"}[r.Intn(4)]
	case 1:
		c.Id = []int{-1, 0, 1, 5, 999999}[r.Intn(5)]
	case 2:
		c.Field = []string{"", "zz", "id", "no", "x"}[r.Intn(5)]
	case 3:
		c.Value = []impl.Value{{}, bad(), null(), text("x"), number(1), list(), object(""), number(1000000)}[r.Intn(8)]
	}
	return c
}

// P40: behind SetRow without a code StoreGet is Value, and the store is ok; with what was there set again it is as it was (if that was not bad).
func TestP40(t *testing.T) {
	r := rand.New(rand.NewSource(101))
	codes, backs := map[int]int{}, 0
	for range 6000 {
		p, rows, _ := anyGraph(r)
		c := anyChange(r, p, rows)
		got, code := impl.SetRow(p, rows, c)
		want, expected := setByHand(p, []impl.Part{p}, [][]impl.Row{rows}, c)
		if code != expected || !same(got, want[0]) {
			t.Fatalf("%s%v: %v, %d, want %v, %d", byHand(p), c, got, code, want[0], expected)
		}
		codes[code]++
		if code != 0 {
			continue
		}
		v, ok := impl.StoreGet(got, c.Type, c.Id, c.Field)
		if !ok || !same(v, c.Value) || !impl.StoreOk(p, got) {
			t.Fatalf("%v: %v", c, got)
		}
		before, _ := impl.StoreGet(rows, c.Type, c.Id, c.Field)
		if before.Sort == impl.Bad {
			continue
		}
		backs++
		c.Value = before
		if back, code := impl.SetRow(p, got, c); code != 0 || !same(back, rows) {
			t.Fatalf("%v, back: %v, %d", c, back, code)
		}
	}
	for code := range 5 {
		if codes[code] < 50 {
			t.Errorf("the code %d only %d times", code, codes[code])
		}
	}
	if backs < 500 {
		t.Errorf("only %d back", backs)
	}
}

// P41: SetParts has the code of SetRow of All, and each part has then what it has of that. P54: SetParts once more has the same code, and changes nothing.
func TestP41P54(t *testing.T) {
	r := rand.New(rand.NewSource(102))
	codes, several := map[int]int{}, 0
	for range 2500 {
		v := anySailing(r)
		c := anyChange(r, v.c.All, v.rows)
		now, code := impl.SetRow(v.c.All, v.rows, c)
		got, other := wantSet(t, v.parts, v.stores, c)
		codes[code]++
		if code != other {
			t.Fatalf("%v%v: %d, of All %d", v, c, other, code)
		}
		for i, p := range v.parts {
			if !same(got[i], impl.StoreCut(p, now)) {
				t.Fatalf("%v%v: %v, of All %v", v, c, got[i], now)
			}
		}
		if len(impl.ChartOwner(v.c, c.Type, c.Field)) > 1 && code == 0 {
			several++
		}
		if again, same1 := impl.SetParts(v.parts, got, c); same1 != code || !same(again, got) {
			t.Fatalf("%v, once more: %v, %d", c, again, same1)
		}
		wantSet(t, v.parts, loosen(r, v).stores, c)
	}
	for code := range 5 {
		if codes[code] < 25 {
			t.Errorf("the code %d only %d times", code, codes[code])
		}
	}
	if several < 50 {
		t.Errorf("only %d of what several know", several)
	}
}

// P42: SetAll is SetParts of each that does not fail, one by one. P43: behind SetAll SailAll is WholeAnswer behind the same changes.
func TestP42P43(t *testing.T) {
	r := rand.New(rand.NewSource(103))
	for i := range 2000 {
		v := anySailing(r)
		var list []impl.Change
		for range r.Intn(6) {
			list = append(list, anyChange(r, v.c.All, v.rows))
		}
		fails := somePlaces(r, len(list))
		stores, rows := v.stores, v.rows
		if i%3 == 0 {
			stores = loosen(r, v).stores
		}
		got, codes := impl.SetAll(v.parts, stores, list, fails)
		var want []int
		for j, c := range list {
			code := impl.SetFailed
			if !slices.Contains(fails, j) {
				stores, code = wantSet(t, v.parts, stores, c)
				rows, _ = impl.SetRow(v.c.All, rows, c)
			}
			want = append(want, code)
		}
		if !slices.Equal(codes, want) || !same(got, stores) {
			t.Fatalf("%v%v, fails %v: %v, %v, want %v, %v", v, list, fails, got, codes, stores, want)
		}
		if i%3 == 0 {
			continue
		}
		v.stores = got
		if sailed := v.sail(t, somePicks(r), nil); sailed != impl.AnswerText(impl.WholeAnswer(v.c.All, rows, v.a)) {
			t.Fatalf("%v%v: %s", v, list, sailed)
		}
	}
	v := sailingOf(t, exampleRows(), "{n0}", eastTold, westTold)
	got, codes := impl.SetAll(v.parts, v.stores, []impl.Change{change("user", 1, "age", number(1)), change("user", 1, "age", number(2)), change("user", 9, "age", null()), {}}, []int{1, 7, -1})
	if fmt.Sprint(codes) != "[0 5 2 1]" || !same(got[0][1].Cells[2].Value, number(1)) {
		t.Errorf("%v, %v", got, codes)
	}
	if got, codes := impl.SetAll(v.parts, v.stores, nil, []int{0}); !same(got, v.stores) || len(codes) != 0 {
		t.Errorf("no changes: %v, %v", got, codes)
	}
}

// P55: two changes of unlike cells make the same stores in either order.
func TestP55(t *testing.T) {
	r := rand.New(rand.NewSource(104))
	tried := 0
	for range 3000 {
		v := anySailing(r)
		if r.Intn(2) == 0 {
			v = loosen(r, v)
		}
		a, b := anyChange(r, v.c.All, v.rows), anyChange(r, v.c.All, v.rows)
		if a.Type == b.Type && a.Id == b.Id && a.Field == b.Field {
			continue
		}
		tried++
		one, codes := impl.SetAll(v.parts, v.stores, []impl.Change{a, b}, nil)
		two, other := impl.SetAll(v.parts, v.stores, []impl.Change{b, a}, nil)
		if !same(one, two) || codes[0] != other[1] || codes[1] != other[0] {
			t.Fatalf("%v and %v: %v, %v, and %v, %v", a, b, one, codes, two, other)
		}
	}
	if tried < 1500 {
		t.Errorf("only %d tried", tried)
	}
}

// P63: behind SetRow of a field that is not among AskFields WholeAnswer is the same.
func TestP63(t *testing.T) {
	r := rand.New(rand.NewSource(105))
	tried, changed := 0, 0
	for range 6000 {
		p, rows, a := anyGraph(r)
		c := anyChange(r, p, rows)
		now, code := impl.SetRow(p, rows, c)
		if code != 0 {
			continue
		}
		before, after := impl.WholeAnswer(p, rows, a), impl.WholeAnswer(p, now, a)
		if slices.Contains(impl.AskFields(p, a), c.Type+"."+c.Field) {
			if !same(before, after) {
				changed++
			}
			continue
		}
		tried++
		if !same(before, after) {
			t.Fatalf("%s%s: %v changes %v to %v", byHand(p), askByHand(a), c, before, after)
		}
	}
	if tried < 1000 || changed < 100 {
		t.Errorf("%d tried, %d others changed", tried, changed)
	}
}
