package tests

import (
	"math/rand"
	"slices"
	"strconv"
	"strings"
	"testing"

	"loop.example/portolan/impl"
)

// router makes the steps of an ask by hand: an independent account of what the document says.
type router struct {
	parts []impl.Part
	steps []impl.Step
	lost  bool
}

// routeByHand is the steps of an ask; false if there are none.
func routeByHand(parts []impl.Part, a []impl.Sel) ([]impl.Step, bool) {
	c, fault := chartByHand(parts)
	if fault.Code != 0 || !isAskByHand(a) || checkByHand(c.All, "query", nil, a).Code != 0 {
		return nil, false
	}
	w := router{parts: parts}
	first := homeByHand(parts, "query", a[0].Name)
	at := w.open(first, nil, "query", nil, nil)
	w.steps[at].Sels = w.part(c.All, at, "query", nil, a)
	return w.steps, !w.lost
}

func (w *router) open(part int, way []string, of string, after []int, brings []string) int {
	w.steps = append(w.steps, impl.Step{Part: part, Way: way, Type: of, After: after, Brings: brings})
	return len(w.steps) - 1
}

// part is what a step answers of fields.
func (w *router) part(all impl.Part, at int, of string, way []string, a []impl.Sel) []impl.Sel {
	from := w.steps[at].Part
	var stay []impl.Sel
	groups := map[int][]impl.Sel{}
	for _, s := range a {
		who := whoByHand(w.parts, from, of, s.Name)
		w.lost = w.lost || who < 0
		if who == from && (of == "query" || answersByHand(w.parts[from], of, s.Name)) {
			stay = append(stay, w.below(all, at, of, way, s))
		} else {
			groups[who] = append(groups[who], s)
		}
	}
	for who := range w.parts {
		group := groups[who]
		if len(group) == 0 {
			continue
		}
		if of == "query" {
			next := w.open(who, way, of, nil, nil)
			w.steps[next].Sels = w.part(all, next, of, way, group)
			continue
		}
		stay = come(stay, "_id", keyByHand(linesOf(w.parts), of))
		var brings []string
		for _, s := range group {
			_, _, needs := knowsByHand(w.parts[who], of, s.Name)
			brings = append(brings, needs...)
		}
		slices.Sort(brings)
		brings = slices.Compact(brings)
		after := []int{at}
		for _, need := range brings {
			if answersByHand(w.parts[from], of, need) {
				stay = come(stay, "_"+need, need)
				continue
			}
			next := w.open(homeByHand(w.parts, of, need), way, of, []int{at}, nil)
			w.steps[next].Sels = sels(impl.Sel{As: "_" + need, Name: need})
			after = append(after, next)
		}
		next := w.open(who, way, of, after, brings)
		for _, s := range group {
			// (The list of steps may grow meanwhile.)
			kid := w.below(all, next, of, way, s)
			w.steps[next].Sels = append(w.steps[next].Sels, kid)
		}
	}
	return stay
}

func (w *router) below(all impl.Part, at int, of string, way []string, s impl.Sel) impl.Sel {
	f, _ := lookUp(all, of, s.Name)
	s.Kids = w.part(all, at, f.Of, append(slices.Clone(way), answered(s)), s.Kids)
	return s
}

func come(stay []impl.Sel, as, name string) []impl.Sel {
	for _, s := range stay {
		if s.As == as {
			return stay
		}
	}
	return append(stay, impl.Sel{As: as, Name: name})
}

// routeTextByHand writes steps as the document says.
func routeTextByHand(steps []impl.Step) string {
	out := ""
	for i, s := range steps {
		words := []string{strconv.Itoa(i), "part", strconv.Itoa(s.Part), s.Type, "at", "/" + strings.Join(s.Way, "/"), askByHand(s.Sels)}
		for j, ahead := range s.After {
			if j == 0 {
				words = append(words, "after")
			}
			words = append(words, strconv.Itoa(ahead))
		}
		for j, name := range s.Brings {
			if j == 0 {
				words = append(words, "with")
			}
			words = append(words, name)
		}
		out += strings.Join(words, " ") + "\n"
	}
	return out
}

// wantRoute fails if an ask has other steps than by hand, and tells them.
func wantRoute(t *testing.T, parts []impl.Part, a []impl.Sel) ([]impl.Step, bool) {
	t.Helper()
	got, ok := impl.RouteMake(parts, a)
	want, expected := routeByHand(parts, a)
	if !expected {
		want = nil
	}
	if ok != expected || !same(got, want) || impl.RouteText(got) != routeTextByHand(want) {
		t.Fatalf("%s%s: steps, %v\n%s, want, %v\n%s", partsByHand(parts), askByHand(a), ok, routeTextByHand(got), expected, routeTextByHand(want))
	}
	return got, ok
}

// anyRoute is parts by chance that make a chart, the chart, and an ask of all without a fault; nobody may answer it.
func anyRoute(r *rand.Rand) ([]impl.Part, impl.Chart, []impl.Sel) {
	for {
		parts := crewWithKeys(r, []int{5, 20, 1000}[r.Intn(3)])
		if r.Intn(2) == 0 {
			parts = needyCrew(r)
		}
		c, fault := impl.ChartMake(parts)
		if fault.Code != 0 {
			continue
		}
		if a := fitChart(r, c); len(a) > 0 {
			return parts, c, a
		}
	}
}

// fitChart is an ask by chance of all of a chart without a fault, nothing if none was found.
func fitChart(r *rand.Rand, c impl.Chart) []impl.Sel {
	for range 4 {
		fields := 1 + r.Intn(24)
		a := fit(r, c.All, "query", &fields, 1+r.Intn(5))
		if levelsByHand(a) == 1 && r.Intn(4) > 0 {
			continue
		}
		aim(r, a)
		if isAskByHand(a) {
			return a
		}
	}
	return nil
}

// needyCrew is parts by chance that make a chart in which much is needed from elsewhere: each has each type with its key, and each field has one part that knows it, or a few.
func needyCrew(r *rand.Rand) []impl.Part {
	parts := make([]impl.Part, 2+r.Intn(3))
	for i := range parts {
		parts[i] = impl.Part{Name: []string{"east", "west", "a", "north"}[i], Types: []impl.Type{{Name: "query"}, {Name: "u"}, {Name: "v"}}}
		root := impl.Field{Name: "n" + strconv.Itoa(i), Of: []string{"u", "u", "v", "int"}[r.Intn(4)], Must: r.Intn(10) == 0}
		root.List = r.Intn(2) == 0
		parts[i].Types[0].Fields = append(parts[i].Types[0].Fields, root)
	}
	for place := 1; place <= 2; place++ {
		key := []string{"id", "no"}[r.Intn(2)]
		for i := range parts {
			kind := &parts[i].Types[place]
			kind.Key = key
			kind.Fields = append(kind.Fields, impl.Field{Name: key, Of: "int", Must: true})
		}
		ints := []string{"b", "c", []string{"d", "e", "id"}[r.Intn(3)]}
		if key == "id" {
			ints[2] = "d"
		}
		for _, name := range ints {
			lend(r, parts, place, impl.Field{Name: name, Of: "int", Hidden: r.Intn(8) == 0})
		}
		for _, name := range []string{"rank", "sum"} {
			kind := &parts[r.Intn(len(parts))].Types[place]
			kind.Fields = append(kind.Fields, impl.Field{Name: name, Of: "int", Needs: lendNeeds(r, kind, append(ints, key))})
		}
		lend(r, parts, place, impl.Field{Name: "pal", Of: []string{"u", "v"}[r.Intn(2)], List: r.Intn(2) == 0, Must: r.Intn(8) == 0})
		lend(r, parts, place, impl.Field{Name: "name", Of: "text", List: r.Intn(3) == 0, Must: r.Intn(6) == 0})
	}
	return parts
}

// lend tells one part of a field, or a few.
func lend(r *rand.Rand, parts []impl.Part, place int, f impl.Field) {
	owner := r.Intn(len(parts))
	f.Shared = r.Intn(5) == 0
	for i := range parts {
		if i == owner || f.Shared && r.Intn(2) == 0 {
			parts[i].Types[place].Fields = append(parts[i].Types[place].Fields, f)
		}
	}
}

// lendNeeds is some fields that are needed; to a type that has not yet heard of one it is Far.
func lendNeeds(r *rand.Rand, kind *impl.Type, names []string) []string {
	var needs []string
	for _, name := range names {
		if len(needs) > 0 && r.Intn(2) == 0 || name == kind.Key && r.Intn(4) > 0 {
			continue
		}
		needs = append(needs, name)
		if !slices.ContainsFunc(kind.Fields, func(f impl.Field) bool { return f.Name == name }) {
			kind.Fields = append(kind.Fields, impl.Field{Name: name, Of: "int", Far: true})
		}
	}
	slices.Sort(needs)
	return needs
}
