package tests

import (
	"fmt"
	"slices"
	"testing"

	"loop.example/portolan/impl"
)

// chartBreach is something that is made wrong with parts, and the fault that they have by it alone.
type chartBreach struct {
	fault impl.ChartFault
	// last says that it is only seen when all is put together.
	last bool
	make func(parts []impl.Part) []impl.Part
}

// threeParts are fine, with a type that all have, and one that two have.
func threeParts(t *testing.T) []impl.Part {
	return crew(t,
		"east; type query; n0 u; type u key id; id int!; type v; x int",
		"west; type query; n1 u; type v; y int; type u key id; id int!",
		"north; type query; n2 u; type u key id; id int!")
}

// addField puts a field behind the others of a type of a part; the part has it only if it has the type.
func addField(p *impl.Part, of string, f impl.Field) {
	for i := range p.Types {
		if p.Types[i].Name == of {
			p.Types[i].Fields = append(p.Types[i].Fields, f)
		}
	}
}

// breachOf is one whose change is made of each part in turn.
func breachOf(at int, of, field string, code int, change func(place int, p *impl.Part)) chartBreach {
	return chartBreach{fault: impl.ChartFault{At: at, Type: of, Field: field, Code: code}, make: func(parts []impl.Part) []impl.Part {
		for i := range parts {
			change(i, &parts[i])
		}
		return parts
	}}
}

// chartBreaches are each code, at each part and type where it may be.
func chartBreaches() []chartBreach {
	breaches := []chartBreach{
		{fault: impl.ChartFault{Code: impl.ChartMany}, make: func(parts []impl.Part) []impl.Part {
			return append(parts, impl.Part{Name: "p4"}, impl.Part{Name: "p5"})
		}},
		{fault: impl.ChartFault{Code: impl.ChartMany}, last: true, make: func(parts []impl.Part) []impl.Part {
			for i := range 3 {
				parts[i].Types = append(parts[i].Types, impl.Type{Name: fmt.Sprint("w", i), Fields: []impl.Field{{Name: "x", Of: "int"}}})
			}
			return parts
		}},
	}
	for k := range 3 {
		breaches = append(breaches, breachOf(k+1, "", "", impl.ChartBadPart, func(i int, p *impl.Part) {
			if i == k {
				p.Types[0].Fields[0].Of = "zz"
			}
		}))
	}
	for k := 1; k < 3; k++ {
		breaches = append(breaches, breachOf(k+1, "", "", impl.ChartTwice, func(i int, p *impl.Part) {
			if i == k {
				p.Name = "east"
			}
		}), breachOf(k+1, "u", "", impl.ChartKey, func(i int, p *impl.Part) {
			if i == k {
				addField(p, "u", impl.Field{Name: "no", Of: "int", Must: true})
				p.Types[slices.IndexFunc(p.Types, func(kind impl.Type) bool { return kind.Name == "u" })].Key = "no"
			}
		}))
	}
	for k := range 2 {
		for _, of := range []string{"query", "u"} {
			breaches = append(breaches, fieldBreaches(k, of)...)
		}
	}
	return breaches
}

// fieldBreaches are those of a field that the part at a place and the one behind it have.
func fieldBreaches(k int, of string) []chartBreach {
	two := func(kind string, code int, first, second impl.Field) chartBreach {
		name := fmt.Sprint(kind, k)
		first.Name, second.Name = name, name
		return breachOf(k+1, of, name, code, func(i int, p *impl.Part) {
			if i == k {
				addField(p, of, deep(first))
			}
			if i == k+1 {
				addField(p, of, deep(second))
			}
		})
	}
	out := []chartBreach{
		two("unl", impl.ChartUnlike, impl.Field{Of: "int", Far: true}, impl.Field{Of: "text"}),
		two("far", impl.ChartFar, impl.Field{Of: "int", Far: true}, impl.Field{Of: "int", Far: true}),
		two("sha", impl.ChartShared, impl.Field{Of: "int", Shared: true}, impl.Field{Of: "int"}),
	}
	if of == "u" {
		out = append(out, two("nee", impl.ChartNeeds, impl.Field{Of: "int", Shared: true}, impl.Field{Of: "int", Shared: true, Needs: []string{"id"}}))
	}
	return out
}

// rank is when a fault is looked for: the lesser one comes first.
func (b chartBreach) rank(parts []impl.Part) [5]int {
	stage := []int{impl.ChartMany: 0, impl.ChartBadPart: 1, impl.ChartTwice: 1, impl.ChartKey: 2, impl.ChartUnlike: 2, impl.ChartFar: 3, impl.ChartShared: 3, impl.ChartNeeds: 3}[b.fault.Code]
	if b.last {
		stage = 4
	}
	of, field := -1, -1
	if b.fault.Type != "" {
		p := parts[b.fault.At-1]
		of = slices.IndexFunc(p.Types, func(kind impl.Type) bool { return kind.Name == b.fault.Type })
		field = slices.IndexFunc(p.Types[of].Fields, func(f impl.Field) bool { return f.Name == b.fault.Field })
	}
	return [5]int{stage, b.fault.At, of, field, b.fault.Code}
}

// Of each two things that are wrong, at the same or at different parts, types and fields, the first is told.
func TestChartFirstOfTwo(t *testing.T) {
	wantChartFault(t, threeParts(t), 0, "", "", 0)
	all := chartBreaches()
	for i, one := range all {
		f := one.fault
		wantChartFault(t, one.make(threeParts(t)), f.At, f.Type, f.Field, f.Code)
		for j, other := range all {
			if i == j {
				continue
			}
			parts := other.make(one.make(threeParts(t)))
			first := one
			a, b := one.rank(parts), other.rank(parts)
			if slices.Compare(b[:], a[:]) < 0 {
				first = other
			}
			f := first.fault
			wantChartFault(t, parts, f.At, f.Type, f.Field, f.Code)
		}
	}
}
