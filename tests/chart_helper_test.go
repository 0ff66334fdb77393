package tests

import (
	"fmt"
	"math/rand"
	"slices"
	"strings"
	"testing"

	"loop.example/portolan/impl"
)

// crew is parts that must be ok, each told as its name, its types and their fields, `; ` between: "a; type query; n int".
func crew(t *testing.T, told ...string) []impl.Part {
	t.Helper()
	var parts []impl.Part
	for _, one := range told {
		lines := strings.Split(one, "; ")
		lines[0] = "part " + lines[0]
		for i := 1; i < len(lines); i++ {
			if !strings.HasPrefix(lines[i], "type ") {
				lines[i] = "  " + lines[i]
			}
		}
		parts = append(parts, part(t, strings.Join(lines, "\n")+"\n"))
	}
	return parts
}

// line is a field of a part as the document goes through them: part by part, type by type, field by field.
type line struct {
	at      int
	kind    impl.Type
	f       impl.Field
	leading bool
}

func linesOf(parts []impl.Part) []line {
	var out []line
	for i, p := range parts {
		for _, kind := range p.Types {
			for j, f := range kind.Fields {
				out = append(out, line{at: i + 1, kind: kind, f: f, leading: j == 0})
			}
		}
	}
	return out
}

// alikeLines are the lines of all parts that are of the same type and field.
func alikeLines(lines []line, of, field string) []line {
	return slices.DeleteFunc(slices.Clone(lines), func(l line) bool { return l.kind.Name != of || l.f.Name != field })
}

func countLines(lines []line, is func(l line) bool) int {
	count := 0
	for _, l := range lines {
		if is(l) {
			count++
		}
	}
	return count
}

// keyByHand is the key of a type by the first part that has one.
func keyByHand(lines []line, of string) string {
	at := slices.IndexFunc(lines, func(l line) bool { return l.kind.Name == of && l.kind.Key != "" })
	if at < 0 {
		return ""
	}
	return lines[at].kind.Key
}

func isKnown(l line) bool  { return !l.f.Far }
func isShared(l line) bool { return l.f.Shared }
func hasNeeds(l line) bool { return len(l.f.Needs) > 0 }

// faultByHand is an independent account of what is wrong with parts together first, but for All.
func faultByHand(parts []impl.Part) impl.ChartFault {
	if len(parts) < 1 || len(parts) > 4 {
		return impl.ChartFault{Code: 8}
	}
	var names []string
	for i, p := range parts {
		if impl.PartCheck(p).Code != 0 {
			return impl.ChartFault{At: i + 1, Code: 1}
		}
		if slices.Contains(names, p.Name) {
			return impl.ChartFault{At: i + 1, Code: 2}
		}
		names = append(names, p.Name)
	}
	lines := linesOf(parts)
	for _, l := range lines {
		if l.leading && l.kind.Key != "" && keyByHand(lines, l.kind.Name) != l.kind.Key {
			return impl.ChartFault{At: l.at, Type: l.kind.Name, Code: 4}
		}
		for _, o := range alikeLines(lines, l.kind.Name, l.f.Name) {
			if fmt.Sprint(o.f.Of, o.f.List, o.f.Must) != fmt.Sprint(l.f.Of, l.f.List, l.f.Must) {
				return impl.ChartFault{At: l.at, Type: l.kind.Name, Field: l.f.Name, Code: 3}
			}
		}
	}
	for _, l := range lines {
		if code := lineFault(lines, l); code != 0 {
			return impl.ChartFault{At: l.at, Type: l.kind.Name, Field: l.f.Name, Code: code}
		}
	}
	return impl.ChartFault{}
}

func lineFault(lines []line, l line) int {
	alike := alikeLines(lines, l.kind.Name, l.f.Name)
	know := countLines(alike, isKnown)
	if know == 0 {
		return 6
	}
	if know > 1 && keyByHand(lines, l.kind.Name) != l.f.Name && countLines(alike, isShared) < know {
		return 5
	}
	if know > 1 && countLines(alike, hasNeeds) > 0 {
		return 7
	}
	for _, need := range l.f.Needs {
		if countLines(alikeLines(lines, l.kind.Name, need), hasNeeds) > 0 {
			return 7
		}
	}
	return 0
}

// chartByHand is an independent account of the chart of parts.
func chartByHand(parts []impl.Part) (impl.Chart, impl.ChartFault) {
	if fault := faultByHand(parts); fault.Code != 0 {
		return impl.Chart{}, fault
	}
	lines := linesOf(parts)
	c := impl.Chart{All: impl.Part{Name: "a"}}
	for _, l := range lines {
		if slices.ContainsFunc(c.All.Types, func(kind impl.Type) bool { return kind.Name == l.kind.Name }) {
			continue
		}
		kind := impl.Type{Name: l.kind.Name, Key: keyByHand(lines, l.kind.Name)}
		for _, m := range lines {
			alike := alikeLines(lines, kind.Name, m.f.Name)
			if m.kind.Name != kind.Name || alike[0].at != m.at {
				continue
			}
			f := impl.Field{Name: m.f.Name, Of: m.f.Of, List: m.f.List, Must: m.f.Must}
			o := impl.Owner{Type: kind.Name, Field: f.Name}
			for _, one := range alike {
				f.Hidden = f.Hidden || one.f.Hidden
				f.Needs = append(f.Needs, one.f.Needs...)
				if isKnown(one) {
					o.Parts = append(o.Parts, one.at-1)
				}
			}
			kind.Fields = append(kind.Fields, f)
			c.Owners = append(c.Owners, o)
		}
		c.All.Types = append(c.All.Types, kind)
	}
	if impl.PartCheck(c.All).Code != 0 {
		return impl.Chart{}, impl.ChartFault{Code: 8}
	}
	return c, impl.ChartFault{}
}

// toldByHand is what ChartText says of an All that is ok: the lines of byHand without what is hidden.
func toldByHand(all impl.Part) string {
	out := "part " + all.Name + "\n"
	for _, kind := range all.Types {
		head := "type " + kind.Name + "\n"
		for _, f := range kind.Fields {
			if !f.Hidden {
				f.Needs = nil
				out += head + "  " + fieldByHand(f) + "\n"
				head = ""
			}
		}
	}
	return out
}

// wantChart fails if parts make another chart than by hand, and tells it.
func wantChart(t *testing.T, parts []impl.Part) (impl.Chart, impl.ChartFault) {
	t.Helper()
	got, fault := impl.ChartMake(parts)
	want, expected := chartByHand(parts)
	if fault != expected || !same(got, want) {
		t.Fatalf("%smake %v, %v, want %v, %v", partsByHand(parts), got, fault, want, expected)
	}
	return got, fault
}

func partsByHand(parts []impl.Part) string {
	var out strings.Builder
	for _, p := range parts {
		out.WriteString(byHand(p))
	}
	return out.String()
}

// wantChartFault fails if parts have another fault than told.
func wantChartFault(t *testing.T, parts []impl.Part, at int, of, field string, code int) {
	t.Helper()
	if _, fault := wantChart(t, parts); fault != (impl.ChartFault{At: at, Type: of, Field: field, Code: code}) {
		t.Errorf("%shave the fault %v, want {%d %s %s %d}", partsByHand(parts), fault, at, of, field, code)
	}
}

// anyCrew is parts by chance, most of which make a chart: what they know together is made first, and then told to them.
func anyCrew(r *rand.Rand) []impl.Part {
	return crewWithKeys(r, 5)
}

// crewWithKeys is parts as anyCrew has them, of which only one in so many has no key where another one has it.
func crewWithKeys(r *rand.Rand, oneIn int) []impl.Part {
	parts := make([]impl.Part, 1+r.Intn(4))
	for i := range parts {
		parts[i].Name = []string{"east", "west", "a", "north"}[i]
	}
	for _, name := range []string{"query", "u", "v", "w"}[:2+r.Intn(3)] {
		key := ""
		if name != "query" && r.Intn(oneIn) > 0 {
			key = []string{"id", "no"}[r.Intn(2)]
		}
		for i := range parts {
			parts[i].Types = append(parts[i].Types, impl.Type{Name: name})
			if key != "" && r.Intn(oneIn) > 0 {
				kind := &parts[i].Types[len(parts[i].Types)-1]
				kind.Key = key
				kind.Fields = append(kind.Fields, impl.Field{Name: key, Of: "int", Must: true})
			}
		}
		for _, field := range []string{"x", "age", "b", "name", "pal", "rank"}[:1+r.Intn(6)] {
			giveField(r, parts, crewField(r, field))
		}
	}
	for i := range parts {
		settle(r, &parts[i])
	}
	return parts
}

func crewField(r *rand.Rand, name string) impl.Field {
	f := impl.Field{Name: name, Of: []string{"int", "int", "int", "text", "u", "u", "v", "w"}[r.Intn(8)]}
	f.List, f.Must = r.Intn(5) == 0, r.Intn(6) == 0
	return f
}

// giveField tells the last type of each part of a field: one or some know it, to some it is Far, some have nothing of it.
func giveField(r *rand.Rand, parts []impl.Part, f impl.Field) {
	several := r.Intn(4) == 0
	owner := r.Intn(len(parts))
	needs := f.Of == "int" && !f.List && !f.Must && r.Intn(2) == 0
	hidden := r.Intn(8) == 0
	for i := range parts {
		kind := &parts[i].Types[len(parts[i].Types)-1]
		told := f
		told.Hidden = hidden && r.Intn(2) == 0
		if i == owner || several && r.Intn(2) == 0 {
			told.Shared = several
			if needs && kind.Key != "" && (!several || r.Intn(8) == 0) {
				told.Needs = someNeeds(r, *kind)
			}
		} else if r.Intn(3) == 0 {
			told.Far = true
		} else {
			continue
		}
		kind.Fields = append(kind.Fields, told)
	}
}

func someNeeds(r *rand.Rand, kind impl.Type) []string {
	var needs []string
	for _, f := range kind.Fields {
		if f.Of == "int" && !f.List && len(f.Needs) == 0 && r.Intn(2) == 0 {
			needs = append(needs, f.Name)
		}
	}
	slices.Sort(needs)
	return needs
}

// settle takes from a part what is of no type there, and types of which nothing is left.
func settle(r *rand.Rand, p *impl.Part) {
	for range 5 {
		for i := range p.Types {
			kind := &p.Types[i]
			kind.Fields = slices.DeleteFunc(kind.Fields, func(f impl.Field) bool {
				return !isWordOfThree(f.Of) && !slices.ContainsFunc(p.Types, func(kind impl.Type) bool { return kind.Name == f.Of })
			})
		}
		p.Types = slices.DeleteFunc(p.Types, func(kind impl.Type) bool { return len(kind.Fields) == 0 && kind.Name != "query" })
	}
	if len(p.Types[0].Fields) == 0 {
		p.Types[0].Fields = append(p.Types[0].Fields, impl.Field{Name: "n" + p.Name, Of: "int"})
	}
}

// nearCrew is parts with something changed; mostly it is such that each part is ok as before.
func nearCrew(r *rand.Rand, parts []impl.Part) []impl.Part {
	for {
		near := breakCrew(r, deep(parts))
		fine := !slices.ContainsFunc(near, func(p impl.Part) bool { return impl.PartCheck(p).Code != 0 })
		if fine || r.Intn(10) == 0 {
			return near
		}
	}
}

// breakCrew changes something of one of the parts, or which they are.
func breakCrew(r *rand.Rand, parts []impl.Part) []impl.Part {
	p := &parts[r.Intn(len(parts))]
	if r.Intn(12) == 0 {
		breakPart(r, p)
	}
	if len(p.Types) == 0 {
		return parts
	}
	kind := &p.Types[r.Intn(len(p.Types))]
	if len(kind.Fields) == 0 {
		return parts
	}
	f := &kind.Fields[r.Intn(len(kind.Fields))]
	switch r.Intn(13) {
	case 0:
		f.Must = !f.Must
	case 1:
		f.List = !f.List
	case 2:
		f.Of = []string{"int", "text", "bool"}[r.Intn(3)]
	case 3:
		f.Far = !f.Far
	case 4:
		f.Shared = !f.Shared
	case 5:
		f.Hidden = !f.Hidden
	case 6:
		f.Needs = someNeeds(r, *kind)
	case 7:
		kind.Key = []string{"", "id", "no", f.Name}[r.Intn(4)]
	case 12:
		if f.Name == kind.Key {
			f.Name, kind.Key = "no", "no"
		}
	case 8:
		kind.Fields = append(kind.Fields, impl.Field{Name: []string{"z", "x", "id", "no"}[r.Intn(4)], Of: "int", Must: r.Intn(2) == 0, Far: r.Intn(4) == 0})
	case 9:
		p.Name = []string{"east", "west", "int"}[r.Intn(3)]
	case 10:
		for i := range 3 {
			p.Types = append(p.Types, impl.Type{Name: "y" + string(rune('0'+r.Intn(6)+i)), Fields: []impl.Field{{Name: "b", Of: "int", Shared: true}}})
		}
	case 11:
		parts = append(parts, impl.Part{Name: "more", Types: []impl.Type{{Name: "query", Fields: []impl.Field{{Name: "more", Of: "int"}}}}})
	}
	return parts
}

// aChart is parts by chance that make a chart, and the chart.
func aChart(r *rand.Rand) ([]impl.Part, impl.Chart) {
	for {
		parts := anyCrew(r)
		if c, fault := impl.ChartMake(parts); fault.Code == 0 {
			return parts, c
		}
	}
}

// splitAll is two parts that make an All of which the text has just so many bytes, of about 1490 to 1600.
func splitAll(t *testing.T, bytes int) []impl.Part {
	t.Helper()
	first, second := impl.Part{Name: "x"}, impl.Part{Name: "y"}
	needs := []string{"kkkkkkk0", "kkkkkkk1", "kkkkkkk2", "kkkkkkk3"}
	first.Types = []impl.Type{{Name: "query"}}
	second.Types = []impl.Type{{Name: "query", Fields: []impl.Field{{Name: "m", Of: "int"}}}}
	for i := range 4 {
		first.Types[0].Fields = append(first.Types[0].Fields, impl.Field{Name: "nnnnnnn" + string(rune('0'+i)), Of: "ttttttt0", List: true, Must: true, Hidden: true})
	}
	for i := range 4 {
		kind := impl.Type{Name: "ttttttt" + string(rune('0'+i)), Key: needs[0]}
		kind.Fields = append(kind.Fields, impl.Field{Name: needs[0], Of: "int", Must: true})
		far := deep(kind)
		for _, name := range needs[1:] {
			kind.Fields = append(kind.Fields, impl.Field{Name: name, Of: "int", Hidden: true})
			far.Fields = append(far.Fields, impl.Field{Name: name, Of: "int", Far: true})
		}
		for j := range 4 {
			far.Fields = append(far.Fields, impl.Field{Name: "rrrrrrr" + string(rune('0'+j)), Of: "int", Hidden: true, Needs: needs})
		}
		first.Types, second.Types = append(first.Types, kind), append(second.Types, far)
	}
	parts := []impl.Part{first, second}
	more := sizeOfAll(parts) - bytes
	for i := range first.Types[0].Fields {
		f := &first.Types[0].Fields[i]
		for len(f.Name) > 2 && more > 0 {
			f.Name = f.Name[1:]
			more--
		}
	}
	for i := 1; i < 5; i++ {
		for j := 4; j < 8; j++ {
			f := &second.Types[i].Fields[j]
			for len(f.Name) > 2 && more > 0 {
				f.Name = f.Name[1:]
				more--
			}
		}
	}
	if sizeOfAll(parts) != bytes {
		t.Fatalf("no All of %d bytes, but of %d", bytes, sizeOfAll(parts))
	}
	return parts
}

// sizeOfAll is how many bytes the text of All has, of the parts of splitAll: of what is only Far, or a second time there, nothing is told.
func sizeOfAll(parts []impl.Part) int {
	whole := deep(parts[0])
	whole.Name = "a"
	for i, kind := range parts[1].Types {
		for _, f := range kind.Fields {
			if _, twice := lookUp(parts[0], kind.Name, f.Name); !twice {
				whole.Types[i].Fields = append(whole.Types[i].Fields, f)
			}
		}
	}
	return len(byHand(whole))
}
