package tests

import (
	"math/rand"
	"regexp"
	"slices"
	"strconv"
	"strings"
	"testing"

	"loop.example/portolan/impl"
)

// sel is a field that is asked for, told as `NAME` or `AS:NAME`.
func sel(name string, kids ...impl.Sel) impl.Sel {
	as, rest, ok := strings.Cut(name, ":")
	if !ok {
		return impl.Sel{Name: name, Kids: kids}
	}
	return impl.Sel{As: as, Name: rest, Kids: kids}
}

// one is a field of which the one with a number is asked for.
func one(name string, id int, kids ...impl.Sel) impl.Sel {
	s := sel(name, kids...)
	s.One, s.Id = true, id
	return s
}

func sels(list ...impl.Sel) []impl.Sel { return list }

// ask is the ask of a text that must be one.
func ask(t *testing.T, line string) []impl.Sel {
	t.Helper()
	a, ok := impl.AskRead(line)
	if !ok {
		t.Fatalf("%q is not read", line)
	}
	return a
}

// askByHand writes an ask as the document says, whether it is ok or not.
func askByHand(a []impl.Sel) string {
	var fields []string
	for _, s := range a {
		line := s.Name
		if s.As != "" {
			line = s.As + ":" + line
		}
		if s.One {
			line += "(" + strconv.Itoa(s.Id) + ")"
		}
		if len(s.Kids) > 0 {
			line += askByHand(s.Kids)
		}
		fields = append(fields, line)
	}
	return "{" + strings.Join(fields, ",") + "}"
}

func answered(s impl.Sel) string {
	if s.As == "" {
		return s.Name
	}
	return s.As
}

// waysByHand are the ways to all fields, in order, with `/` between.
func waysByHand(ahead string, a []impl.Sel) []string {
	var ways []string
	for _, s := range a {
		ways = append(ways, ahead+answered(s))
		ways = append(ways, waysByHand(ahead+answered(s)+"/", s.Kids)...)
	}
	return ways
}

func levelsByHand(a []impl.Sel) int {
	deepest := 0
	for _, s := range a {
		deepest = max(deepest, levelsByHand(s.Kids))
	}
	if len(a) == 0 {
		return 0
	}
	return deepest + 1
}

var nameByHand = regexp.MustCompile(`^[a-z][a-z0-9_]{0,7}$`)

func isNameByHand(name string) bool {
	return nameByHand.MatchString(name) && !slices.Contains([]string{"int", "text", "bool", "part", "type", "key", "far", "hidden", "shared", "needs"}, name)
}

// isAskByHand is an independent account of what an ask that is ok has.
func isAskByHand(a []impl.Sel) bool {
	return len(a) > 0 && areSelsByHand(a) && levelsByHand(a) <= 5 && len(waysByHand("", a)) <= 24 && len(askByHand(a)) <= 400
}

func areSelsByHand(a []impl.Sel) bool {
	var names []string
	for _, s := range a {
		if !isNameByHand(s.Name) || s.As != "" && (!isNameByHand(s.As) || s.As == s.Name) {
			return false
		}
		if s.Id < 0 || s.Id > 999999 || !s.One && s.Id != 0 || slices.Contains(names, answered(s)) || !areSelsByHand(s.Kids) {
			return false
		}
		names = append(names, answered(s))
	}
	return true
}

// wantAsk fails if an ask is ok otherwise than told, or if any function of asks alone takes it otherwise.
func wantAsk(t *testing.T, what string, a []impl.Sel, ok bool) {
	t.Helper()
	if impl.AskOk(a) != ok {
		t.Errorf("%s: ok %v, want %v", what, !ok, ok)
	}
	line := impl.AskWrite(a)
	read, again := impl.AskRead(line)
	if ok && (line != askByHand(a) || !again || !same(read, a)) {
		t.Errorf("%s: written %q, and read as %v, %v", what, line, read, again)
	}
	if !ok && (line != "" || again || !isNothing(read)) {
		t.Errorf("%s: written %q", what, line)
	}
	ways, less := impl.AskWays(a), impl.AskLess(a, "zz/zz")
	if ok && (!same(ways, waysByHand("", a)) || !same(less, a) || impl.AskSize(a) != len(ways) || impl.AskDepth(a) != levelsByHand(a)) {
		t.Errorf("%s: ways %v, less %v, size %d, depth %d", what, ways, less, impl.AskSize(a), impl.AskDepth(a))
	}
	if !ok && (len(ways) > 0 || len(less) > 0 || impl.AskSize(a) != 0 || impl.AskDepth(a) != 0) {
		t.Errorf("%s: not ok, but with %v, %v, %d, %d", what, ways, less, impl.AskSize(a), impl.AskDepth(a))
	}
	joined, both := impl.AskJoin(a, a)
	if both != ok || ok && !same(joined, a) || !ok && !isNothing(joined) {
		t.Errorf("%s: with itself %v, %v", what, joined, both)
	}
	if !ok {
		wantUnfit(t, what, base(), a)
	}
}

// wantUnfit fails if a part answers an ask of which one of the two is not ok.
func wantUnfit(t *testing.T, what string, p impl.Part, a []impl.Sel) {
	t.Helper()
	fault := impl.AskCheck(p, a)
	if fault.Code != impl.AskUnknown || len(fault.Way) > 0 || impl.AskCost(p, a) != 0 || len(impl.AskFields(p, a)) > 0 {
		t.Errorf("%s: fault %v, cost %d, fields %v", what, fault, impl.AskCost(p, a), impl.AskFields(p, a))
	}
}

// wantAskText fails if a text is read as an ask, or refused, otherwise than told.
func wantAskText(t *testing.T, line string, ok bool) {
	t.Helper()
	got, read := impl.AskRead(line)
	if read != ok {
		t.Errorf("%.80q: read %v, want %v", line, read, ok)
	}
	wantAskAsWritten(t, line)
	if read && !isAskByHand(got) {
		t.Errorf("%.80q: read as %v", line, got)
	}
}

// wantAskAsWritten fails if a text is read that is not written so, or refused with more than nothing.
func wantAskAsWritten(t *testing.T, line string) {
	t.Helper()
	got, ok := impl.AskRead(line)
	if ok && (askByHand(got) != line || impl.AskWrite(got) != line) || !ok && !isNothing(got) {
		t.Errorf("%.80q: read as %v, %v", line, got, ok)
	}
}

// anySels is an ok ask by chance, of at most so many fields and levels.
func anySels(r *rand.Rand, fields *int, levels int) []impl.Sel {
	var out []impl.Sel
	for _, name := range []string{"a", "b1", "c_c", "query", "abcdefgh", "z"} {
		if *fields == 0 || r.Intn(3) > 0 && len(out) > 0 {
			continue
		}
		*fields--
		s := sel(name)
		if r.Intn(4) == 0 {
			s.As = []string{"x", "y9_", "hgfedcba"}[r.Intn(3)] + name
			s.As = s.As[:min(len(s.As), 8)]
		}
		if r.Intn(4) == 0 {
			s.One, s.Id = true, []int{0, 1, 10, 999999, r.Intn(1000000)}[r.Intn(5)]
		}
		if levels > 1 && r.Intn(3) > 0 {
			s.Kids = anySels(r, fields, levels-1)
		}
		out = append(out, s)
	}
	return noTwo(out)
}

// noTwo is a list without fields that are answered under the name of one ahead.
func noTwo(a []impl.Sel) []impl.Sel {
	var out []impl.Sel
	for _, s := range a {
		if !slices.ContainsFunc(out, func(o impl.Sel) bool { return answered(o) == answered(s) }) {
			out = append(out, s)
		}
	}
	return out
}

func anyAsk(r *rand.Rand) []impl.Sel {
	for {
		fields := 1 + r.Intn(24)
		if a := anySels(r, &fields, 1+r.Intn(5)); isAskByHand(a) {
			return a
		}
	}
}

// breakAsk changes something of an ask, that it need not be ok any more.
func breakAsk(r *rand.Rand, a []impl.Sel) []impl.Sel {
	if len(a) == 0 {
		return a
	}
	s := &a[r.Intn(len(a))]
	for len(s.Kids) > 0 && r.Intn(2) == 0 {
		s = &s.Kids[r.Intn(len(s.Kids))]
	}
	word := []string{"", "a", "z", "int", "_a", "A", "abcdefghi", "a/b", "far", "query"}[r.Intn(10)]
	switch r.Intn(7) {
	case 0:
		s.Name = word
	case 1:
		s.As = word
	case 2:
		s.One = !s.One
	case 3:
		s.Id = []int{-1, 0, 999999, 1000000, 5}[r.Intn(5)]
	case 4:
		s.Kids = append(s.Kids, sel(word))
	case 5:
		s.Kids = []impl.Sel{*s}
	case 6:
		return append(a, sel(word))
	}
	return a
}

// fit is an ask by chance that has no fault of a part, nothing if there is none.
func fit(r *rand.Rand, p impl.Part, of string, fields *int, levels int) []impl.Sel {
	var out []impl.Sel
	for _, kind := range p.Types {
		if kind.Name != of {
			continue
		}
		for _, f := range kind.Fields {
			if *fields == 0 || f.Hidden || r.Intn(3) == 0 {
				continue
			}
			*fields--
			s := sel(f.Name)
			if r.Intn(3) == 0 {
				s.As = "x" + f.Name[:min(len(f.Name), 7)]
			}
			if !isWordOfThree(f.Of) {
				if levels > 1 {
					s.Kids = fit(r, p, f.Of, fields, levels-1)
				}
				if len(s.Kids) == 0 {
					continue
				}
				if of == "query" && !f.List && r.Intn(2) == 0 {
					s.One, s.Id = true, r.Intn(1000000)
				}
			}
			out = append(out, s)
		}
	}
	return noTwo(out)
}

func isWordOfThree(of string) bool {
	return of == "int" || of == "text" || of == "bool"
}

// fitAsk is an ok part by chance and an ask that has no fault of it.
func fitAsk(r *rand.Rand) (impl.Part, []impl.Sel) {
	for {
		p := anyPart(r)
		fields := 1 + r.Intn(24)
		if a := fit(r, p, "query", &fields, 1+r.Intn(5)); isAskByHand(a) {
			return p, a
		}
	}
}

// checkByHand is an independent account of what is wrong first with an ask that is ok, of a type of an ok part.
func checkByHand(p impl.Part, of string, way []string, a []impl.Sel) impl.AskFault {
	for _, s := range a {
		here := append(slices.Clone(way), answered(s))
		f, ok := lookUp(p, of, s.Name)
		word := isWordOfThree(f.Of)
		code := 0
		if !ok || f.Hidden {
			code = 1
		} else if word && len(s.Kids) > 0 {
			code = 2
		} else if !word && len(s.Kids) == 0 {
			code = 3
		} else if s.One && (word || f.List || of != "query") {
			code = 4
		}
		if code != 0 {
			return impl.AskFault{Way: here, Code: code}
		}
		if below := checkByHand(p, f.Of, here, s.Kids); below.Code != 0 {
			return below
		}
	}
	return impl.AskFault{}
}

// costByHand is the cost of a thing of a type, as the document's words say it.
func costByHand(p impl.Part, of string, a []impl.Sel) int {
	cost := 1
	for _, s := range a {
		f, _ := lookUp(p, of, s.Name)
		own := 1
		if !isWordOfThree(f.Of) {
			own = costByHand(p, f.Of, s.Kids)
		}
		if f.List {
			own = 1 + 3*own
		}
		cost += own
	}
	return cost
}

// fieldsByHand are the fields that an ask looks at, each as often as it comes.
func fieldsByHand(p impl.Part, of string, a []impl.Sel) []string {
	var out []string
	for _, s := range a {
		f, _ := lookUp(p, of, s.Name)
		out = append(out, of+"."+s.Name)
		for _, need := range f.Needs {
			out = append(out, of+"."+need)
		}
		out = append(out, fieldsByHand(p, f.Of, s.Kids)...)
	}
	return out
}

// firsts is a list with each thing only where it comes first.
func firsts(list []string) []string {
	var out []string
	for _, x := range list {
		if !slices.Contains(out, x) {
			out = append(out, x)
		}
	}
	return out
}
