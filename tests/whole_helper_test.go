package tests

import (
	"math/rand"
	"slices"
	"strconv"
	"strings"
	"testing"

	"loop.example/portolan/impl"
)

// teller tells an answer as a text, straight from rows: an independent account of what the document says.
type teller struct {
	p      impl.Part
	rows   []impl.Row
	wrongs []string
}

// wholeByHand is the text of the answer to an ask without a fault of a store that is ok.
func wholeByHand(p impl.Part, rows []impl.Row, a []impl.Sel) string {
	w := teller{p: p, rows: rows}
	data := w.thing("query", 0, nil, a)
	if len(w.wrongs) == 0 {
		return `{"data":` + data + `}`
	}
	return `{"data":` + data + `,"wrong":[` + strings.Join(w.wrongs, ",") + `]}`
}

func (w *teller) wrong(way []string, code int) string {
	line := `{"way":["` + strings.Join(way, `","`) + `"],"code":` + strconv.Itoa(code) + `}`
	w.wrongs = append(w.wrongs, line)
	return "null"
}

func (w *teller) thing(of string, id int, way []string, a []impl.Sel) string {
	var fields []string
	lost := false
	for _, s := range a {
		f, _ := lookUp(w.p, of, s.Name)
		line := w.field(of, id, f, s, append(slices.Clone(way), answered(s)))
		lost = lost || f.Must && line == "null"
		fields = append(fields, `"`+answered(s)+`":`+line)
	}
	if lost {
		return "null"
	}
	return "{" + strings.Join(fields, ",") + "}"
}

func (w *teller) field(of string, id int, f impl.Field, s impl.Sel, way []string) string {
	v := w.cell(of, id, f.Name)
	if s.One {
		v = number(s.Id)
	}
	if len(f.Needs) > 0 {
		v = w.sum(v, of, id, f.Needs)
	}
	if v.Sort == impl.Bad {
		return w.wrong(way, 1)
	}
	if v.Sort != impl.JsonList {
		return w.single(f, s, v, way, f.Must)
	}
	var kids []string
	for i, kid := range v.Kids {
		kids = append(kids, w.single(f, s, kid, append(slices.Clone(way), strconv.Itoa(i)), false))
	}
	return "[" + strings.Join(kids, ",") + "]"
}

func (w *teller) cell(of string, id int, name string) impl.Value {
	v, ok := getByHand(w.rows, of, id, name)
	if !ok {
		return null()
	}
	return v
}

func (w *teller) sum(v impl.Value, of string, id int, needs []string) impl.Value {
	all := []impl.Value{v}
	for _, need := range needs {
		all = append(all, w.cell(of, id, need))
	}
	if slices.ContainsFunc(all, func(v impl.Value) bool { return v.Sort == impl.Bad }) {
		return bad()
	}
	if slices.ContainsFunc(all, func(v impl.Value) bool { return v.Sort != impl.JsonInt }) {
		return null()
	}
	total := 0
	for _, one := range all {
		total += one.Num
	}
	if total != min(max(total, -999999), 999999) {
		return bad()
	}
	return number(total)
}

// single is the text of what is no list; where it must be there, and is not known, something went wrong.
func (w *teller) single(f impl.Field, s impl.Sel, v impl.Value, way []string, must bool) string {
	there := v.Sort != impl.JsonNull
	if there && isWordOfThree(f.Of) {
		return impl.JsonWrite(v)
	}
	there = there && slices.ContainsFunc(w.rows, func(r impl.Row) bool { return r.Type == f.Of && r.Id == v.Num })
	if !there && must {
		return w.wrong(way, 2)
	}
	if !there {
		return "null"
	}
	return w.thing(f.Of, v.Num, way, s.Kids)
}

// strict is a value as it is written, however great it is; false if it has something that is not written.
func strict(v impl.Value) (string, bool) {
	ok := true
	var kids []string
	for i, kid := range v.Kids {
		line, good := strict(kid)
		ok = ok && good
		if v.Sort == impl.JsonObj && i < len(v.Names) {
			line = `"` + v.Names[i] + `":` + line
		}
		kids = append(kids, line)
	}
	leaf := v
	leaf.Names, leaf.Kids = nil, nil
	switch v.Sort {
	case impl.JsonList:
		return "[" + strings.Join(kids, ",") + "]", ok && impl.JsonOk(leaf) && len(v.Names) == 0
	case impl.JsonObj:
		return "{" + strings.Join(kids, ",") + "}", ok && impl.JsonOk(leaf) && len(v.Names) == len(v.Kids)
	}
	return impl.JsonWrite(v), impl.JsonOk(v)
}

// countByHand is how many values there are, itself and all in it.
func countByHand(v impl.Value) int {
	count := 1
	for _, kid := range v.Kids {
		count += countByHand(kid)
	}
	return count
}

// under is what stands in data under an outermost name; false if data is null.
func under(data impl.Value, name string) (impl.Value, bool) {
	at := slices.Index(data.Names, name)
	if at < 0 {
		return impl.Value{}, false
	}
	return data.Kids[at], true
}

// wantWhole fails if an ask is answered otherwise than by hand, and tells the answer.
func wantWhole(t *testing.T, p impl.Part, rows []impl.Row, a []impl.Sel) impl.Answer {
	t.Helper()
	got := impl.WholeAnswer(p, rows, a)
	line, want := impl.AnswerText(got), wholeByHand(p, rows, a)
	if line != want {
		t.Fatalf("%s of\n%s\n%v\nis answered by\n%s, want\n%s", askByHand(a), byHand(p), rows, line, want)
	}
	data, ok := strict(got.Data)
	if !ok || !strings.HasPrefix(want, `{"data":`+data) {
		t.Fatalf("%s is answered by %v", askByHand(a), got.Data)
	}
	return got
}

// anyGraph is a part, a store and an ask of it by chance, with an answer.
func anyGraph(r *rand.Rand) (impl.Part, []impl.Row, []impl.Sel) {
	for {
		p, a := fitAsk(r)
		if levelsByHand(a) == 1 && r.Intn(6) > 0 {
			continue
		}
		// With as much that must be there as anyPart has, the data would be null too often.
		for i := range p.Types {
			for j := range p.Types[i].Fields {
				f := &p.Types[i].Fields[j]
				if f.Must && f.Name != p.Types[i].Key && r.Intn(2) == 0 {
					f.Must = false
				}
			}
		}
		aim(r, a)
		rows := anyStore(r, p, false)
		if impl.StoreOk(p, rows) && impl.AskCheck(p, a).Code == 0 {
			return p, rows, a
		}
	}
}

// aim asks for numbers that rows may have, and some that none has.
func aim(r *rand.Rand, a []impl.Sel) {
	for i := range a {
		if a[i].One {
			a[i].Id = []int{0, 1, 2, 3, 7, 999999, 5, 6}[r.Intn(8)]
		}
	}
}
