package tests

import (
	"math/rand"
	"slices"
	"strings"
	"testing"

	"loop.example/portolan/impl"
)

// chartArgs are arguments of the functions of charts, told as one.
type chartArgs struct {
	Parts []impl.Part
	C     impl.Chart
}

// askAllCharts calls each function of charts and of what can be reached.
func askAllCharts(x chartArgs) {
	impl.ChartMake(x.Parts)
	impl.ReachAll(x.Parts)
	impl.ReachOk(x.Parts)
	impl.ChartText(x.C)
	for _, o := range x.C.Owners {
		impl.ChartOwner(x.C, o.Type, o.Field)
	}
	impl.ChartOwner(x.C, "query", "zz")
	impl.ChartOwner(x.C, "", "")
}

// wantNoChart fails if parts that are not ok, or too many, make a chart or reach something.
func wantNoChart(t *testing.T, what string, parts []impl.Part, fault impl.ChartFault) {
	t.Helper()
	c, got := impl.ChartMake(parts)
	if got != fault || !isNothing(c) {
		t.Errorf("%s: a chart %v, %v", what, c, got)
	}
	if states := impl.ReachAll(parts); !isNothing(states) {
		t.Errorf("%s: reaches %v", what, states)
	}
	if ok, way := impl.ReachOk(parts); ok || !isNothing(way) {
		t.Errorf("%s: reaches all, %v", what, way)
	}
}

func TestOnceGreatCharts(t *testing.T) {
	fine := crew(t, "a; type query; n int")
	wantNoChart(t, "many parts", make([]impl.Part, 1000000), impl.ChartFault{Code: impl.ChartMany})
	wantNoChart(t, "many fine parts", slices.Repeat(fine, 1000000), impl.ChartFault{Code: impl.ChartMany})
	long := strings.Repeat("a", 1000000)
	for _, c := range []struct {
		what string
		p    impl.Part
	}{
		{"many types", impl.Part{Name: "b", Types: make([]impl.Type, 1000000)}},
		{"many fields", impl.Part{Name: "b", Types: []impl.Type{{Name: "query", Fields: make([]impl.Field, 1000000)}}}},
		{"many needs", with(1, impl.Field{Name: "x", Of: "int", Needs: slices.Repeat([]string{"a"}, 1000000)})},
		{"a long name", impl.Part{Name: long, Types: fine[0].Types}},
		{"a long field", impl.Part{Name: "b", Types: []impl.Type{{Name: "query", Fields: []impl.Field{{Name: long, Of: "int"}}}}}},
		{"nothing", impl.Part{}},
	} {
		wantNoChart(t, c.what, append(slices.Clone(fine), c.p), impl.ChartFault{At: 2, Code: impl.ChartBadPart})
		if got := impl.ChartText(impl.Chart{All: c.p}); got != "" {
			t.Errorf("%s: told as %.60q", c.what, got)
		}
	}
	owners := make([]impl.Owner, 1000000)
	owners[999999] = impl.Owner{Type: "u", Field: long, Parts: make([]int, 1000000)}
	if got := impl.ChartOwner(impl.Chart{Owners: owners}, "u", long); len(got) != 1000000 {
		t.Errorf("%d parts own it", len(got))
	}
}

// Any parts and charts: also such as are not ok, and charts whose All and Owners do not go together.
func TestOnceAnyChart(t *testing.T) {
	r := rand.New(rand.NewSource(52))
	for range 6000 {
		parts := anyCrew(r)
		for range r.Intn(4) {
			parts = breakCrew(r, parts)
		}
		for range r.Intn(3) {
			breakPart(r, &parts[r.Intn(len(parts))])
		}
		c, fault := wantChart(t, parts)
		if fault.Code != 0 {
			wantNoChart(t, "by chance", parts, fault)
		}
		wantReach(t, parts)
		for range r.Intn(3) {
			breakPart(r, &c.All)
		}
		if got := impl.ChartText(c); got != "" && impl.PartCheck(c.All).Code != 0 || got == "" && impl.PartCheck(c.All).Code == 0 {
			t.Fatalf("%v is told as %q", c.All, got)
		}
		askAllCharts(chartArgs{Parts: parts, C: c})
		askAllCharts(chartArgs{C: impl.Chart{All: anyPart(r), Owners: c.Owners}})
	}
}

func TestOnceNothingOfChartsIsChanged(t *testing.T) {
	r := rand.New(rand.NewSource(53))
	for i := range 2000 {
		parts, c := aChart(r)
		if i%3 == 0 {
			parts = breakCrew(r, parts)
		}
		if i%5 == 0 {
			breakPart(r, &c.All)
		}
		wantUntouched(t, chartArgs{Parts: parts, C: c}, askAllCharts)
	}
}

func TestOnceNewMemoryOfCharts(t *testing.T) {
	r := rand.New(rand.NewSource(54))
	for range 2000 {
		parts, _ := aChart(r)
		x := roomy(chartArgs{Parts: parts})
		c, _ := impl.ChartMake(x.Parts)
		wantApart(t, c, x)
		wantApart(t, impl.ReachAll(x.Parts), x)
		_, way := impl.ReachOk(x.Parts)
		wantApart(t, way, x)
		x.C = roomy(c)
		for _, o := range c.Owners {
			wantApart(t, impl.ChartOwner(x.C, o.Type, o.Field), x)
			wantApart(t, impl.ChartOwner(c, o.Type, o.Field), c)
		}
	}
}

// What is done to an answer is not seen in the next one.
func TestOnceNothingOfChartsIsKept(t *testing.T) {
	parts := crew(t, eastTold, westTold)
	first, _ := impl.ChartMake(parts)
	impl.ChartOwner(first, "user", "id")[0] = 77
	first.All.Types[1].Fields[3].Needs[0], first.Owners[3].Parts[0], first.All.Types[0].Fields[0].Name = "zz", 77, "zz"
	impl.ReachAll(parts)[0].Type = "zz"
	if c, fault := wantChart(t, parts); fault.Code != 0 || len(impl.ChartOwner(c, "user", "id")) != 2 {
		t.Errorf("now it is %v, %v", c, fault)
	}
	lost := crew(t, "a; type query; n u; type u; x int", "b; type query; m u; type u; y int")
	_, way := impl.ReachOk(lost)
	way[0] = "zz"
	wantReach(t, lost)
	wantReach(t, parts)
}

// The empty list and the nil list are the same value.
func TestOnceEmptyListsOfCharts(t *testing.T) {
	parts := crew(t, eastTold, westTold)
	want, _ := impl.ChartMake(parts)
	for _, l := range []*impl.Part{&parts[0], &parts[1]} {
		for i := range l.Types {
			for j := range l.Types[i].Fields {
				if len(l.Types[i].Fields[j].Needs) == 0 {
					l.Types[i].Fields[j].Needs = []string{}
				}
			}
		}
	}
	if got, fault := impl.ChartMake(parts); fault.Code != 0 || !same(got, want) {
		t.Errorf("empty lists: %v, %v", got, fault)
	}
	wantReach(t, parts)
	// An empty list of Needs is none: several may know such a field.
	shared := crew(t, "a; type query; n int shared", "b; type query; n int shared")
	shared[0].Types[0].Fields[0].Needs = []string{}
	wantChartFault(t, shared, 0, "", "", 0)
	wantNoChart(t, "empty", []impl.Part{}, impl.ChartFault{Code: impl.ChartMany})
	if got := impl.ChartOwner(impl.Chart{Owners: []impl.Owner{{Type: "u", Field: "x", Parts: []int{}}}}, "u", "x"); len(got) != 0 {
		t.Errorf("no parts: %v", got)
	}
}
