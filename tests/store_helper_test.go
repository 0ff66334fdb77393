package tests

import (
	"fmt"
	"math/rand"
	"regexp"
	"slices"
	"strings"
	"testing"

	"loop.example/portolan/impl"
)

// bad is what stands in a cell that cannot be read.
func bad() impl.Value { return impl.Value{Sort: impl.Bad} }

// row is a row of a type, with its cells told as values under names, a comma between.
func row(of string, id int, names string, values ...impl.Value) impl.Row {
	r := impl.Row{Type: of, Id: id}
	for i, v := range values {
		r.Cells = append(r.Cells, impl.Cell{Name: strings.Split(names, ",")[i], Value: v})
	}
	return r
}

// part is the part of a text that must be one.
func part(t *testing.T, lines string) impl.Part {
	t.Helper()
	p, fault := impl.PartRead(lines)
	if fault.Code != 0 {
		t.Fatalf("%q is not read: %v", lines, fault)
	}
	return p
}

// isFitByHand is an independent account of which values fit a field, by how they are written.
func isFitByHand(f impl.Field, v impl.Value) bool {
	if v.Sort == impl.Bad {
		return same(v, bad())
	}
	single := `-?\d+`
	if f.Of == "text" {
		single = `"(?:[^"\\]|\\.)*"`
	} else if f.Of == "bool" {
		single = `true|false`
	}
	form := single
	if f.List {
		each := "(?:null|" + single + ")"
		form = `\[(?:` + each + `(?:,` + each + `){0,2})?\]`
	}
	if !f.Must {
		form += "|null"
	}
	if forms[form] == nil {
		forms[form] = regexp.MustCompile("^(?:" + form + ")$")
	}
	return forms[form].MatchString(impl.JsonWrite(v))
}

// forms are those that were needed so far.
var forms = map[string]*regexp.Regexp{}

// knownByHand are the fields of a type that are not Far.
func knownByHand(p impl.Part, of string) []impl.Field {
	var out []impl.Field
	for _, kind := range p.Types {
		for _, f := range kind.Fields {
			if kind.Name == of && !f.Far {
				out = append(out, f)
			}
		}
	}
	return out
}

// isStoreByHand is an independent account of what a store has.
func isStoreByHand(p impl.Part, rows []impl.Row) bool {
	if impl.PartCheck(p).Code != 0 || len(rows) < 1 || len(rows) > 16 {
		return false
	}
	var order []string
	for i, r := range rows {
		place := slices.IndexFunc(p.Types, func(kind impl.Type) bool { return kind.Name == r.Type })
		if place < 0 || r.Id < 0 || r.Id > 999999 || (place == 0) != (i == 0) || i == 0 && r.Id != 0 {
			return false
		}
		// What is said of a row's place is the order of this text.
		order = append(order, fmt.Sprintf("%d %06d", place, r.Id))
		want := knownByHand(p, r.Type)
		if len(want) != len(r.Cells) {
			return false
		}
		for j, f := range want {
			c := r.Cells[j]
			if c.Name != f.Name || !isFitByHand(f, c.Value) || f.Name == p.Types[place].Key && !same(c.Value, number(r.Id)) {
				return false
			}
		}
	}
	return slices.IsSorted(order) && len(slices.Compact(order)) == len(rows)
}

// cutByHand is what a part that is ok has of rows, whatever these are.
func cutByHand(p impl.Part, rows []impl.Row) []impl.Row {
	var out []impl.Row
	for _, kind := range p.Types {
		for _, r := range rows {
			if r.Type != kind.Name {
				continue
			}
			cut := impl.Row{Type: r.Type, Id: r.Id}
			for _, f := range knownByHand(p, kind.Name) {
				c := impl.Cell{Name: f.Name, Value: null()}
				if at := slices.IndexFunc(r.Cells, func(c impl.Cell) bool { return c.Name == f.Name }); at >= 0 {
					c.Value = r.Cells[at].Value
				}
				cut.Cells = append(cut.Cells, c)
			}
			out = append(out, cut)
		}
	}
	return out
}

// getByHand is the first cell of that name of the first row of that type and number.
func getByHand(rows []impl.Row, of string, id int, field string) (impl.Value, bool) {
	for _, r := range rows {
		if r.Type != of || r.Id != id {
			continue
		}
		for _, c := range r.Cells {
			if c.Name == field {
				return c.Value, true
			}
		}
		break
	}
	return impl.Value{}, false
}

// anyStore is a store of an ok part by chance: of all of it, not only of what is not Far, if that is asked for.
func anyStore(r *rand.Rand, p impl.Part, all bool) []impl.Row {
	var rows []impl.Row
	for i, kind := range p.Types {
		ids := []int{0}
		if i > 0 {
			ids = anyIds(r)
		}
		for _, id := range ids {
			if len(rows) == impl.StoreMaxRows {
				break
			}
			made := impl.Row{Type: kind.Name, Id: id}
			for _, f := range kind.Fields {
				if f.Far && !all {
					continue
				}
				v := anyCell(r, f)
				if f.Name == kind.Key {
					v = number(id)
				}
				made.Cells = append(made.Cells, impl.Cell{Name: f.Name, Value: v})
			}
			rows = append(rows, made)
		}
	}
	return rows
}

// anyIds are few numbers, ascending; most of them are small, that others find them.
func anyIds(r *rand.Rand) []int {
	var ids []int
	for _, id := range []int{0, 1, 2, 3, 7, 999999} {
		if r.Intn(3) > 0 {
			ids = append(ids, id)
		}
	}
	return ids
}

// anyCell is a value by chance that fits a field.
func anyCell(r *rand.Rand, f impl.Field) impl.Value {
	if r.Intn(12) == 0 {
		return bad()
	}
	if !f.Must && r.Intn(6) == 0 {
		return null()
	}
	if !f.List {
		return anySingle(r, f.Of)
	}
	v := list()
	for range r.Intn(impl.StoreMaxList + 1) {
		kid := anySingle(r, f.Of)
		if r.Intn(6) == 0 {
			kid = null()
		}
		v.Kids = append(v.Kids, kid)
	}
	return v
}

func anySingle(r *rand.Rand, of string) impl.Value {
	switch of {
	case "text":
		return text([]string{"", "ann", `"\`, strings.Repeat("z", impl.JsonMaxText)}[r.Intn(4)])
	case "bool":
		return truth(r.Intn(2) == 0)
	case "int":
		return number([]int{0, 1, -1, 30, impl.JsonMaxNum, -impl.JsonMaxNum, 500000, -500000}[r.Intn(8)])
	}
	return number([]int{0, 1, 2, 3, 7, 999999, 5, -1}[r.Intn(8)])
}

// breakStore changes something of rows, that they need not be a store any more.
func breakStore(r *rand.Rand, rows []impl.Row) []impl.Row {
	if len(rows) == 0 {
		return rows
	}
	at := r.Intn(len(rows))
	one := &rows[at]
	switch r.Intn(9) {
	case 0:
		one.Type = []string{"", "query", "user", "item", "zz"}[r.Intn(5)]
	case 1:
		one.Id = []int{-1, 0, 1, 2, 999999, 1000000}[r.Intn(6)]
	case 2:
		one.Cells = append(one.Cells, impl.Cell{Name: []string{"", "b", "id", "zz"}[r.Intn(4)], Value: number(1)})
	case 3:
		one.Cells = one.Cells[:len(one.Cells)/2]
	case 4:
		rows = append(rows, deep(*one))
	case 5:
		rows = slices.Delete(rows, at, at+1)
	case 6:
		other := &rows[r.Intn(len(rows))]
		*one, *other = *other, *one
	default:
		if len(one.Cells) > 0 {
			one.Cells[r.Intn(len(one.Cells))].Value = []impl.Value{bad(), null(), number(1), number(1000000), text("x"), truth(true), list(), list(null()), list(number(1), bad()), {Sort: 8}, {Sort: impl.Bad, Num: 1}, {Sort: impl.JsonBool, Num: 2}}[r.Intn(12)]
		}
	}
	return rows
}

// wantStore fails if rows are a store of a part otherwise than told, or if they are cut otherwise than the document says.
func wantStore(t *testing.T, what string, p impl.Part, rows []impl.Row, ok bool) {
	t.Helper()
	if impl.StoreOk(p, rows) != ok {
		t.Errorf("%s: store %v, want %v: %v", what, !ok, ok, rows)
	}
	if isStoreByHand(p, rows) != ok {
		t.Errorf("%s: by hand it is %v", what, !ok)
	}
	cut := impl.StoreCut(p, rows)
	if impl.PartCheck(p).Code != 0 && !isNothing(cut) || impl.PartCheck(p).Code == 0 && !same(cut, cutByHand(p, rows)) {
		t.Errorf("%s: cut to %v", what, cut)
	}
	if ok && !same(cut, rows) {
		t.Errorf("%s: cut to %v, but it is a store", what, cut)
	}
	for _, r := range rows {
		for _, c := range r.Cells {
			want, there := getByHand(rows, r.Type, r.Id, c.Name)
			got, found := impl.StoreGet(rows, r.Type, r.Id, c.Name)
			if found != there || !same(got, want) {
				t.Errorf("%s: %s %d %s is %v, %v, want %v, %v", what, r.Type, r.Id, c.Name, got, found, want, there)
			}
		}
	}
	if !ok {
		for _, line := range []string{"{n}", "{b}", "{c1}"} {
			if got := impl.WholeAnswer(p, rows, ask(t, line)); !isNothing(got) {
				t.Errorf("%s: no store, but %s is answered by %v", what, line, got)
			}
		}
	}
}
