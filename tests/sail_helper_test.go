package tests

import (
	"math/rand"
	"slices"
	"strings"
	"testing"

	"loop.example/portolan/impl"
)

// badBy is what is known where a value is bad, with its code.
func badBy(code int) impl.Value { return impl.Value{Sort: impl.Bad, Num: code} }

// doer does a step by hand: an independent account of what the document says.
type doer struct {
	p      impl.Part
	rows   []impl.Row
	brings []string
}

// doneByHand is what is known behind a step that may be done.
func doneByHand(p impl.Part, rows []impl.Row, s impl.Step, raw impl.Value, fails bool) impl.Value {
	d := doer{p, rows, s.Brings}
	return alter(deep(raw), s.Way, func(thing impl.Value) impl.Value {
		id := 0
		if s.Type != "query" {
			v, ok := under(thing, "_id")
			if !ok || v.Sort != impl.JsonInt {
				return thing
			}
			id = v.Num
		}
		there := slices.ContainsFunc(rows, func(r impl.Row) bool { return r.Type == s.Type && r.Id == id })
		for _, one := range s.Sels {
			v := badBy(3)
			if there && !fails {
				v = d.known(s.Type, id, one, thing)
			}
			thing = stand(thing, answered(one), v)
		}
		return thing
	})
}

// alter is a value with each thing along a way altered.
func alter(v impl.Value, way []string, by func(impl.Value) impl.Value) impl.Value {
	if v.Sort == impl.JsonList {
		for i := range v.Kids {
			v.Kids[i] = alter(v.Kids[i], way, by)
		}
	}
	if v.Sort != impl.JsonObj {
		return v
	}
	if len(way) == 0 {
		return by(v)
	}
	for i, name := range v.Names {
		if name == way[0] {
			v.Kids[i] = alter(v.Kids[i], way[1:], by)
		}
	}
	return v
}

// stand is a thing with a value under a name.
func stand(thing impl.Value, name string, v impl.Value) impl.Value {
	if at := slices.Index(thing.Names, name); at >= 0 {
		thing.Kids[at] = v
		return thing
	}
	thing.Names = append(slices.Clone(thing.Names), name)
	thing.Kids = append(slices.Clone(thing.Kids), v)
	return thing
}

// known is what is known of a field of a row, the thing being what stands there already.
func (d doer) known(of string, id int, s impl.Sel, thing impl.Value) impl.Value {
	f, _ := lookUp(d.p, of, s.Name)
	v := d.cell(of, id, s.Name)
	if s.One {
		v = number(s.Id)
	}
	if len(f.Needs) > 0 {
		all := []impl.Value{v}
		for _, need := range f.Needs {
			one := d.cell(of, id, need)
			if slices.Contains(d.brings, need) {
				one = null()
				if stands, ok := under(thing, "_"+need); ok {
					one = stands
				}
			}
			all = append(all, one)
		}
		v = addByHand(all)
	}
	if isWordOfThree(f.Of) {
		return v
	}
	return d.things(f.Of, v, s.Kids)
}

func (d doer) cell(of string, id int, name string) impl.Value {
	v, ok := getByHand(d.rows, of, id, name)
	if !ok {
		return null()
	}
	if v.Sort == impl.Bad {
		return badBy(1)
	}
	return deep(v)
}

// addByHand is the sum of values: the first bad one, null if one is no number, bad if it is too great.
func addByHand(all []impl.Value) impl.Value {
	total := 0
	for _, v := range all {
		if v.Sort == impl.Bad {
			return v
		}
		total += v.Num
	}
	if slices.ContainsFunc(all, func(v impl.Value) bool { return v.Sort != impl.JsonInt }) {
		return null()
	}
	if total > 999999 || total < -999999 {
		return badBy(1)
	}
	return number(total)
}

// things is what is known of the rows whose numbers stand in a value.
func (d doer) things(of string, v impl.Value, kids []impl.Sel) impl.Value {
	switch v.Sort {
	case impl.JsonList:
		out := list()
		for _, kid := range v.Kids {
			out.Kids = append(out.Kids, d.things(of, kid, kids))
		}
		return out
	case impl.JsonInt:
		if !slices.ContainsFunc(d.rows, func(r impl.Row) bool { return r.Type == of && r.Id == v.Num }) {
			return null()
		}
		out := object("")
		for _, s := range kids {
			out = stand(out, answered(s), d.known(of, v.Num, s, out))
		}
		return out
	}
	return v
}

// answerByHand is the text of the answer that is made of what is known.
func answerByHand(all impl.Part, a []impl.Sel, known impl.Value) string {
	w := teller{p: all}
	data := w.told("query", nil, a, known)
	if len(w.wrongs) == 0 {
		return `{"data":` + data + `}`
	}
	return `{"data":` + data + `,"wrong":[` + strings.Join(w.wrongs, ",") + `]}`
}

// told is the text of what is answered of a thing.
func (w *teller) told(of string, way []string, a []impl.Sel, known impl.Value) string {
	var fields []string
	lost := false
	for _, s := range a {
		f, _ := lookUp(w.p, of, s.Name)
		here := append(slices.Clone(way), answered(s))
		v, ok := under(known, answered(s))
		line := "null"
		if ok {
			line = w.toldOf(f, s, here, v)
		}
		if f.Must && (!ok || v.Sort == impl.JsonNull) {
			w.wrong(here, 2)
		}
		lost = lost || f.Must && line == "null"
		fields = append(fields, `"`+answered(s)+`":`+line)
	}
	if lost {
		return "null"
	}
	return "{" + strings.Join(fields, ",") + "}"
}

func (w *teller) toldOf(f impl.Field, s impl.Sel, way []string, v impl.Value) string {
	switch v.Sort {
	case impl.Bad:
		return w.wrong(way, v.Num)
	case impl.JsonObj:
		return w.told(f.Of, way, s.Kids, v)
	case impl.JsonList:
		var kids []string
		for i, kid := range v.Kids {
			kids = append(kids, w.toldOf(f, s, append(slices.Clone(way), string(rune('0'+i))), kid))
		}
		return "[" + strings.Join(kids, ",") + "]"
	}
	return impl.JsonWrite(v)
}

// readyByHand are the steps that can be done next.
func readyByHand(steps []impl.Step, done []int) []int {
	var out []int
	for i, s := range steps {
		ready := !slices.Contains(done, i)
		for _, ahead := range s.After {
			ready = ready && slices.Contains(done, ahead)
		}
		if ready {
			out = append(out, i)
		}
	}
	return out
}

// sailByHand is the text of the answer of all steps, done in the order that picks tell; and that order.
func sailByHand(v sailing, picks, fails []int) (string, []int) {
	steps, _ := routeByHand(v.parts, v.a)
	known := object("")
	var done []int
	for turn := 0; len(done) < len(steps); turn++ {
		ready := readyByHand(steps, done)
		pick := 0
		if len(picks) > 0 {
			pick = ((picks[turn%len(picks)] % 1024) + 1024) % 1024
		}
		at := ready[pick%len(ready)]
		s := steps[at]
		known = doneByHand(v.parts[s.Part], v.stores[s.Part], s, known, slices.Contains(fails, at))
		done = append(done, at)
	}
	return answerByHand(v.c.All, v.a, known), done
}

// sailing is parts that make a chart, the chart, a store of all, what each part has, and an ask that has steps.
type sailing struct {
	parts  []impl.Part
	c      impl.Chart
	rows   []impl.Row
	stores [][]impl.Row
	a      []impl.Sel
	steps  []impl.Step
}

// anySailing is a sailing by chance, each part having what it has of the store of all.
func anySailing(r *rand.Rand) sailing {
	for {
		parts, c, a := anyRoute(r)
		for range 3 {
			v := sailing{parts: parts, c: c, a: a, rows: anyStore(r, c.All, false)}
			var ok bool
			if v.steps, ok = impl.RouteMake(parts, a); !ok || !impl.StoreOk(c.All, v.rows) {
				continue
			}
			for _, p := range parts {
				v.stores = append(v.stores, cutByHand(p, v.rows))
			}
			return v
		}
	}
}

// loosen is a sailing whose stores each have something of their own: other values, rows too many or too few.
func loosen(r *rand.Rand, v sailing) sailing {
	v.stores = nil
	for _, p := range v.parts {
		for {
			rows := anyStore(r, p, false)
			if impl.StoreOk(p, rows) {
				v.stores = append(v.stores, rows)
				break
			}
		}
	}
	return v
}

// somePlaces are places of steps by chance, few of which are none.
func somePlaces(r *rand.Rand, steps int) []int {
	var out []int
	for range r.Intn(4) {
		out = append(out, r.Intn(steps+1)-r.Intn(2))
	}
	return out
}

func somePicks(r *rand.Rand) []int {
	var out []int
	for range r.Intn(6) {
		out = append(out, []int{0, 1, 2, 3, -1, -2, 1023, 1024, 1025, -1024, 1 << 40, -1 << 62, r.Intn(50)}[r.Intn(13)])
	}
	return out
}

// sail is the text of SailAll, which must be true.
func (v sailing) sail(t *testing.T, picks, fails []int) string {
	t.Helper()
	a, ok := impl.SailAll(v.parts, v.stores, v.a, picks, fails)
	if !ok {
		t.Fatalf("%s is not sailed", v)
	}
	return impl.AnswerText(a)
}

func (v sailing) String() string {
	return partsByHand(v.parts) + askByHand(v.a) + "\n" + routeTextByHand(v.steps)
}

// isPlain says whether steps tell all that is brought apart: no field is brought by two steps to one thing, and none is named as the key is.
func (v sailing) isPlain() bool {
	seen := map[string]int{}
	for _, s := range v.steps {
		for _, one := range s.Sels {
			if strings.HasPrefix(one.As, "_") {
				seen[strings.Join(s.Way, "/")+" "+one.As]++
			}
			if seen[strings.Join(s.Way, "/")+" "+one.As] > 1 || one.As == "_id" {
				return false
			}
		}
		if slices.Contains(s.Brings, "id") && keyByHand(linesOf(v.parts), s.Type) != "id" {
			return false
		}
	}
	return true
}
