package tests

import (
	"fmt"
	"math/rand"
	"slices"
	"strings"
	"testing"

	"loop.example/portolan/impl"
)

// knowsByHand says whether a part knows a field of a type, and which key and needs it has there.
func knowsByHand(p impl.Part, of, field string) (known bool, key string, needs []string) {
	for _, l := range linesOf([]impl.Part{p}) {
		if l.kind.Name == of && l.f.Name == field && !l.f.Far {
			return true, l.kind.Key, l.f.Needs
		}
	}
	return false, "", nil
}

// homeByHand is the place of a field's home, -1 if it has none.
func homeByHand(parts []impl.Part, of, field string) int {
	return slices.IndexFunc(parts, func(p impl.Part) bool {
		known, key, _ := knowsByHand(p, of, field)
		return known && (of == "query" || key != "")
	})
}

func answersByHand(p impl.Part, of, field string) bool {
	known, _, needs := knowsByHand(p, of, field)
	return known && len(needs) == 0
}

// whoByHand is the place of who answers a field of a thing of a type that was got from a part, -1 if nobody does.
func whoByHand(parts []impl.Part, from int, of, field string) int {
	home := homeByHand(parts, of, field)
	if of == "query" {
		return home
	}
	if answersByHand(parts[from], of, field) {
		return from
	}
	keyed := slices.ContainsFunc(parts[from].Types, func(kind impl.Type) bool { return kind.Name == of && kind.Key != "" })
	if home < 0 || !keyed {
		return -1
	}
	_, _, needs := knowsByHand(parts[home], of, field)
	for _, need := range needs {
		if !answersByHand(parts[from], of, need) && homeByHand(parts, of, need) < 0 {
			return -1
		}
	}
	return home
}

// reachByHand is an independent account of what can be reached: all states, and the first way that has no answer.
func reachByHand(parts []impl.Part) (states []string, lost string) {
	c, fault := chartByHand(parts)
	if fault.Code != 0 {
		return nil, ""
	}
	type stop struct {
		part    int
		of, way string
	}
	queue := []stop{{of: "query"}}
	states = []string{"0 query"}
	for len(queue) > 0 {
		s := queue[0]
		queue = queue[1:]
		for _, o := range c.Owners {
			f, _ := lookUp(c.All, o.Type, o.Field)
			if o.Type != s.of || f.Hidden {
				continue
			}
			who, way := whoByHand(parts, s.part, s.of, f.Name), s.way+"/"+f.Name
			if who < 0 && lost == "" {
				lost = way
			}
			next := fmt.Sprint(who, " ", f.Of)
			if who >= 0 && !isWordOfThree(f.Of) && !slices.Contains(states, next) {
				states = append(states, next)
				queue = append(queue, stop{who, f.Of, way})
			}
		}
	}
	return states, lost
}

// wantReach fails if parts reach otherwise than by hand, and tells the states and the way that has no answer.
func wantReach(t *testing.T, parts []impl.Part) (string, string) {
	t.Helper()
	var told []string
	for _, s := range impl.ReachAll(parts) {
		told = append(told, fmt.Sprint(s.Part, " ", s.Type))
	}
	ok, way := impl.ReachOk(parts)
	line := ""
	if len(way) > 0 {
		line = "/" + strings.Join(way, "/")
	}
	states, lost := reachByHand(parts)
	if !slices.Equal(told, states) || line != lost || ok != (lost == "" && len(states) > 0) {
		t.Fatalf("%sreach %v, %v, %q, want %v, %q", partsByHand(parts), told, ok, line, states, lost)
	}
	return strings.Join(told, ", "), line
}

func TestReach(t *testing.T) {
	for _, c := range []struct {
		what         string
		told         []string
		states, lost string
	}{
		{"the example", []string{eastTold, westTold}, "0 query, 0 user", ""},
		{"the example the other way round", []string{westTold, eastTold}, "0 query, 1 user", ""},
		{"only words", []string{"a; type query; n int; m [text]"}, "0 query", ""},
		{"no chart", []string{westTold}, "", ""},
		{"nothing", nil, "", ""},
		// Of query it is always the home: the first part that knows it.
		{"query Far", []string{"a; type query; n u far; type u; x int", "b; type query; n u; type u; y int far", "c; type query; k int; type u; y int"}, "0 query, 1 u", "/n/x"},
		{"query of two", []string{"a; type query; k int; type u; x int shared", "b; type query; n u shared; type u; x int shared", "c; type query; n u shared; type u; x int shared"}, "0 query, 1 u", ""},
		{"query of the part 0, too", []string{"a; type query; n u shared; type u; x int shared", "b; type query; n u shared; type u; x int shared"}, "0 query, 0 u", ""},
		{"query of a part that has no key", []string{"a; type query; n int; type u key id; id int!", "b; type query; m u; type u; id int!"}, "0 query, 1 u", ""},
		// Of a thing: the part that it was got from, if it answers at once.
		{"at once, though another part comes first", []string{"a; type query; n int; type u key id; id int!; x v shared; type v; y int shared", "b; type query; m u; type u key id; id int!; x v shared; type v; y int shared"}, "0 query, 1 u, 1 v", ""},
		{"at once, without a key", []string{"a; type query; n int; type u key id; id int!; x int shared", "b; type query; m u; type u; x int shared; id int!"}, "0 query, 1 u", ""},
		{"Far, so not at once", []string{"a; type query; n u; type u key id; id int!; x v far; type v; y int", "b; type query; m int; type u key id; id int!; x v; type v; z int"}, "0 query, 0 u, 1 v", "/n/x/y"},
		// Else its home, if both have the key.
		{"its home", []string{"a; type query; n u; type u key id; id int!", "b; type query; m int; type u key id; id int!; x int"}, "0 query, 0 u", ""},
		{"no key where it was got", []string{"a; type query; n u; type u; id int!", "b; type query; m int; type u key id; id int!; x int"}, "0 query, 0 u", "/n/x"},
		{"no key where it is known", []string{"a; type query; n u; type u key id; id int!", "b; type query; m int; type u; id int!; x int"}, "0 query, 0 u", "/n/x"},
		{"no key at all", []string{"a; type query; n u; type u; x int", "b; type query; m u; type u; y int"}, "0 query, 0 u, 1 u", "/n/y"},
		{"the first that knows it has no key", []string{"a; type query; n u; type u key id; id int!", "b; type query; m int; type u; id int!; x v shared; type v; y int shared", "c; type query; k int; type u key id; id int!; x v shared; type v; y int shared; z int"}, "0 query, 0 u, 2 v", ""},
		{"the first of two with a key", []string{"a; type query; n u; type u key id; id int!", "b; type query; m int; type u key id; id int!; x v shared; type v; y int shared", "c; type query; k int; type u key id; id int!; x v shared; type v; y int shared; z int"}, "0 query, 0 u, 1 v", "/n/x/z"},
		{"the first with a key is Far", []string{"a; type query; n u; type u key id; id int!; x v far; type v; y int shared", "b; type query; m int; type u key id; id int!; x v; type v; y int shared"}, "0 query, 0 u, 1 v", ""},
		// Needs.
		{"needs of its own part", []string{"a; type query; n u; type u key id; id int!; x int; r int needs x"}, "0 query, 0 u", ""},
		{"needs that the part has at once", []string{"a; type query; n u; type u key id; id int!; x int", "b; type query; m int; type u key id; id int!; x int far; r int needs x"}, "0 query, 0 u", ""},
		{"needs that have a home elsewhere", []string{"a; type query; n u; type u key id; id int!", "b; type query; m int; type u key id; id int!; x int far; r int needs x", "c; type query; k int; type u key id; id int!; x int"}, "0 query, 0 u", ""},
		{"needs that have their home at the same part", []string{"a; type query; n u; type u key id; id int!", "b; type query; m int; type u key id; id int!; x int; r int needs x"}, "0 query, 0 u", ""},
		{"needs that have no home", []string{"a; type query; n u; type u key id; id int!", "b; type query; m int; type u key id; id int!; x int far hidden; r int needs x", "c; type query; k int; type u; x int"}, "0 query, 0 u", "/n/r"},
		{"one of two needs that has no home", []string{"a; type query; n u; type u key id; id int!; w int", "b; type query; m int; type u key id; id int!; w int far; x int far hidden; r int needs w x", "c; type query; k int; type u; x int"}, "0 query, 0 u", "/n/r"},
		{"needs, and no key", []string{"a; type query; n u; type u; x int; id int!", "b; type query; m int; type u key id; id int!; x int far; r int needs x"}, "0 query, 0 u", "/n/r"},
		{"needs of the part itself that have no home", []string{"a; type query; n u; type u key id; id int!; x int far hidden; r int needs x", "b; type query; m int; type u; x int"}, "0 query, 0 u", "/n/r"},
		{"the key is needed", []string{"a; type query; n u; type u key id; id int!", "b; type query; m int; type u key id; id int!; r int needs id"}, "0 query, 0 u", ""},
		// What is hidden is neither asked for nor a way.
		{"hidden, and nobody answers", []string{"a; type query; n u; type u; x int", "b; type query; m int; type u; y int hidden"}, "0 query, 0 u", ""},
		{"hidden elsewhere", []string{"a; type query; n u; type u; x int; y int far hidden", "b; type query; m int; type u; y int"}, "0 query, 0 u", ""},
		{"no way through what is hidden", []string{"a; type query; n u hidden; k int; type u; x v; type v; z int", "b; type query; m int; type u; y int"}, "0 query", ""},
		{"all of query hidden", []string{"a; type query; n u hidden; type u; x int"}, "0 query", ""},
		// The order of states, and the way that came first.
		{"one behind the other", []string{"a; type query; n u; m v; type u; x w; type v; y w; y2 u; type w; z int"}, "0 query, 0 u, 0 v, 0 w", ""},
		{"round and round", []string{"a; type query; n u; type u key id; id int!; pal u; x v far; type v key no; no int!", "b; type query; k int; type u key id; id int!; x v; type v key no; no int!; back u"}, "0 query, 0 u, 1 v, 1 u", ""},
		{"the shortest way", []string{"a; type query; n u; m v; type u; x v; type v; y w; type w; z int", "b; type query; k int; type w; lost int"}, "0 query, 0 u, 0 v, 0 w", "/m/y/lost"},
		{"the first field of a state", []string{"a; type query; n u; type u; x int; y int far; z int far", "b; type query; k int; type u; z int; y int"}, "0 query, 0 u", "/n/y"},
		{"the first state", []string{"a; type query; n u; m v; type u; x int; type v; y int", "b; type query; k int; type v; lost int; type u; gone int"}, "0 query, 0 u, 0 v", "/n/gone"},
		{"a state behind one that has nobody", []string{"a; type query; n u; type u; x v; type v; y int", "b; type query; k int; type u; gone v; type v; z int"}, "0 query, 0 u, 0 v", "/n/gone"},
		{"not through what has nobody", []string{"a; type query; n u; type u; x int", "b; type query; k int; type u; gone v; type v; z int"}, "0 query, 0 u", "/n/gone"},
		{"of a list", []string{"a; type query; n [u]!; type u; x [v]; type v; y int far", "b; type query; k int; type v; y int"}, "0 query, 0 u, 0 v", "/n/x/y"},
		{"one type from two parts", []string{"a; type query; n u; type u key id; id int!; x int", "b; type query; m u; type u; y int hidden; id int!"}, "0 query, 0 u, 1 u", "/m/x"},
	} {
		states, lost := wantReach(t, crew(t, c.told...))
		if states != c.states || lost != c.lost {
			t.Errorf("%s: %q, %q, want %q, %q", c.what, states, lost, c.states, c.lost)
		}
	}
}

// P29: ReachAll tells each state once, of types of All, and none just if the parts make no chart.
func TestP29(t *testing.T) {
	r := rand.New(rand.NewSource(51))
	charts, lost, far := 0, 0, 0
	for i := range 10000 {
		parts := anyCrew(r)
		for range i % 3 {
			parts = nearCrew(r, parts)
		}
		wantReach(t, parts)
		c, fault := impl.ChartMake(parts)
		got := impl.ReachAll(parts)
		if (len(got) == 0) != (fault.Code != 0) {
			t.Fatalf("%sreach %v, but %v", partsByHand(parts), got, fault)
		}
		seen := map[impl.State]int{}
		for _, s := range got {
			seen[s]++
			known := slices.ContainsFunc(c.All.Types, func(kind impl.Type) bool { return kind.Name == s.Type })
			if seen[s] > 1 || !known || s.Part < 0 || s.Part >= len(parts) {
				t.Fatalf("%sreach %v", partsByHand(parts), got)
			}
		}
		ok, way := impl.ReachOk(parts)
		if len(got) > 0 {
			charts++
		}
		if len(way) > 0 {
			lost++
		}
		if len(got) > 4 {
			far++
		}
		if ok && len(way) > 0 || !ok && (fault.Code == 0) != (len(way) > 0) {
			t.Fatalf("%s%v, %v, %v", partsByHand(parts), ok, way, fault)
		}
		if !isWay(c.All, way) {
			t.Fatalf("%s%v is no way", partsByHand(parts), way)
		}
	}
	if charts < 3000 || lost < 300 || far < 300 {
		t.Errorf("too few: %d charts, %d ways without an answer, %d with many states", charts, lost, far)
	}
}

// isWay says whether a way leads from field to field of All, none of them Hidden.
func isWay(all impl.Part, way []string) bool {
	of := "query"
	for _, name := range way {
		f, ok := lookUp(all, of, name)
		if !ok || f.Hidden {
			return false
		}
		of = f.Of
	}
	return true
}
