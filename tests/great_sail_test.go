package tests

import (
	"fmt"
	"math"
	"math/rand"
	"slices"
	"strings"
	"testing"

	"loop.example/portolan/impl"
)

// ringPart is a part whose things have things of their own kind.
func ringPart(t *testing.T) impl.Part {
	t.Helper()
	return crew(t, "a; type query; us [u]; top u; n int; type u key id; id int!; a int; b int; x int needs a b; y int needs a; fs [u]; pal u; ns [int]")[0]
}

// ringRows is a store of ringPart in which each thing has itself so many times.
func ringRows(times int) []impl.Row {
	ids := list(slices.Repeat([]impl.Value{number(1)}, times)...)
	return []impl.Row{
		row("query", 0, "us,top,n", ids, number(1), number(5)),
		row("u", 1, "id,a,b,x,y,fs,pal,ns", number(1), number(2), number(3), number(4), number(5), ids, number(1), ids),
	}
}

// manySels are so many fields of one name, each answered under another one.
func manySels(count int, name string, kids ...impl.Sel) []impl.Sel {
	out := make([]impl.Sel, count)
	for i := range out {
		out[i] = impl.Sel{As: fmt.Sprintf("a%d", i), Name: name, Kids: kids}
	}
	return out
}

// deepMany are as many levels as can be asked for, with so many fields in each.
func deepMany(count int) []impl.Sel {
	out := manySels(count, "ns")
	for range 4 {
		out = manySels(count, "fs", out...)
	}
	return manySels(count, "us", out...)
}

// However many fields are asked for, of however many things: if things have little, little is answered.
func TestSailStepManyFields(t *testing.T) {
	p := ringPart(t)
	things := slices.Repeat([]impl.Value{object("")}, 599)
	for _, count := range []int{30, 40, 400, 3000} {
		step := impl.Step{Type: "query", Sels: sels(sel("us", sel("fs", sel("fs", sel("fs", sel("fs", manySels(count, "ns")...))))))}
		want := list(slices.Repeat([]impl.Value{object("us", list())}, 599)...)
		if got := impl.SailStep(p, ringRows(0), step, list(things...), false); !same(got, want) {
			t.Errorf("%d fields: a value of the sort %d with %d in it", count, got.Sort, len(got.Kids))
		}
		got := impl.SailStep(p, ringRows(0), impl.Step{Type: "query", Sels: deepMany(count)}, object(""), false)
		if len(got.Kids) != count || got.Names[count-1] != fmt.Sprintf("a%d", count-1) || !same(got.Kids[count-1], list()) {
			t.Errorf("%d fields in each level: a value of the sort %d with %d in it", count, got.Sort, len(got.Kids))
		}
		got = impl.SailStep(p, ringRows(1), step, list(things[:9]...), false)
		inner, ok := impl.Value{}, len(got.Kids) == 9
		if ok {
			inner = got.Kids[8]
		}
		for _, name := range []string{"us", "fs", "fs", "fs", "fs"} {
			v, there := under(inner, name)
			ok = ok && there && len(v.Kids) == 1
			if ok {
				inner = v.Kids[0]
			}
		}
		if !ok || len(inner.Kids) != count || !same(inner.Kids[count-1], list(number(1))) {
			t.Errorf("%d fields at the end: a value of the sort %d with %d in it", count, inner.Sort, len(inner.Kids))
		}
	}
	fails := impl.SailStep(p, ringRows(3), impl.Step{Type: "query", Sels: deepMany(3000)}, object("k", null()), true)
	if len(fails.Kids) != 3001 || !same(fails.Kids[3000], badBy(3)) {
		t.Errorf("failed: a value of the sort %d with %d in it", fails.Sort, len(fails.Kids))
	}
}

// Many names of one thing, and many fields under one name.
func TestSailStepManyNames(t *testing.T) {
	p := ringPart(t)
	const many = 300000
	got := impl.SailStep(p, ringRows(1), impl.Step{Type: "query", Sels: manySels(many, "n")}, object("b,a7", null(), null()), false)
	if len(got.Names) != many+1 || got.Names[1] != "a7" || got.Names[9] != "a8" || got.Names[many] != fmt.Sprintf("a%d", many-1) || got.Kids[1].Num != 5 || got.Kids[many].Num != 5 {
		t.Errorf("%d names", len(got.Names))
	}
	needs := manySels(many, "y")
	needs[many-1].As = "_a"
	got = impl.SailStep(p, ringRows(1), impl.Step{Type: "u", Sels: needs, Brings: slices.Repeat([]string{"a"}, many)}, object("_id,_a", number(1), number(7)), false)
	if len(got.Names) != many+1 || got.Kids[1].Num != 12 || got.Kids[many].Num != 12 {
		t.Errorf("%d names", len(got.Names))
	}
	// Each of 3000 in each of 6 levels is answered under one name, by the last.
	same3000 := sels(sel("x:a"), sel("x:ns"))
	for range 4 {
		same3000 = slices.Repeat(sels(sel("fs", same3000...)), 3000)
	}
	same3000 = slices.Repeat(sels(sel("us", same3000...)), 3000)
	inner := object("x", list(number(1), number(1)))
	for range 4 {
		inner = object("fs", list(inner, inner))
	}
	got = impl.SailStep(p, ringRows(2), impl.Step{Type: "query", Sels: same3000}, object(""), false)
	if !same(got, object("us", list(inner, inner))) {
		t.Errorf("one name: a value of the sort %d with %d in it", got.Sort, len(got.Kids))
	}
	wantApart(t, got)
	// Lists of which each has one more than the one ahead, all answered under one name.
	base := manySels(3000, "a")
	var steps []impl.Sel
	for i := range base {
		steps = append(steps, sel("top", base[:i+1]...))
	}
	got = impl.SailStep(p, ringRows(1), impl.Step{Type: "query", Sels: steps}, object(""), false)
	if len(got.Kids) != 1 || len(got.Kids[0].Kids) != 3000 {
		t.Errorf("lists that overlap: a value of the sort %d with %d in it", got.Sort, len(got.Kids))
	}
}

// What is answered by more than memory has is answered by nothing, and soon.
func TestSailStepMoreThanMemory(t *testing.T) {
	p := ringPart(t)
	for _, count := range []int{30, 3000} {
		if got := impl.SailStep(p, ringRows(3), impl.Step{Type: "query", Sels: deepMany(count)}, object(""), false); !isNothing(got) {
			t.Errorf("%d fields in each level: a value with %d in it", count, len(got.Kids))
		}
	}
	// Those that come to themselves have more levels than can be asked for.
	held := sels(sel("pal"), sel("x:pal"), sel("id"))
	held[0].Kids, held[1].Kids = held, held[1:]
	if got := impl.SailStep(p, ringRows(3), impl.Step{Type: "u", Sels: held}, object("_id", number(1)), false); !isNothing(got) {
		t.Errorf("held: a value with %d in it", len(got.Kids))
	}
}

// sharer makes lists of fields of which many share memory, by chance.
type sharer struct {
	r    *rand.Rand
	pool map[string][][]impl.Sel
}

func (s sharer) list(of string, level int) []impl.Sel {
	key := fmt.Sprint(of, level)
	if known := s.pool[key]; len(known) > 0 && s.r.Intn(3) > 0 {
		one := known[s.r.Intn(len(known))]
		from := s.r.Intn(len(one))
		return one[from : from+1+s.r.Intn(len(one)-from)]
	}
	out := make([]impl.Sel, 1+s.r.Intn(5))
	for i := range out {
		out[i] = s.field(of, level)
	}
	s.pool[key] = append(s.pool[key], out)
	return out
}

func (s sharer) field(of string, level int) impl.Sel {
	words := map[string][]string{"query": {"n"}, "u": {"id", "a", "b", "x", "y", "ns", "x", "y"}}[of]
	things := map[string][]string{"query": {"us", "top"}, "u": {"fs", "pal"}}[of]
	out := impl.Sel{As: []string{"", "", "_a", "_b", "_a", "_b", "k", "l", "_id"}[s.r.Intn(9)], Name: words[s.r.Intn(len(words))]}
	if level < 6 && s.r.Intn(2) == 0 {
		out.Name = things[s.r.Intn(2)]
		out.Kids = s.list("u", level+1)
	}
	if s.r.Intn(12) == 0 {
		out.One, out.Id = true, s.r.Intn(4)
	}
	return out
}

// ringStore is a store of ringPart by chance.
func ringStore(r *rand.Rand) []impl.Row {
	word := func() impl.Value {
		return []impl.Value{number(r.Intn(9)), number(r.Intn(4)), number(999990), null(), bad()}[r.Intn(5)]
	}
	ids := func() impl.Value {
		out := list()
		for range r.Intn(4) {
			out.Kids = append(out.Kids, []impl.Value{number(1), number(2), number(3), number(8), null()}[r.Intn(5)])
		}
		return []impl.Value{out, out, out, null(), bad()}[r.Intn(5)]
	}
	rows := []impl.Row{row("query", 0, "us,top,n", ids(), word(), word())}
	for id := 1; id <= 3; id++ {
		rows = append(rows, row("u", id, "id,a,b,x,y,fs,pal,ns", number(id), word(), word(), word(), word(), ids(), word(), ids()))
	}
	return rows
}

// Fields that share memory, and such as are answered under one name, are answered as by hand.
func TestSailStepSharedFields(t *testing.T) {
	r := rand.New(rand.NewSource(140))
	p := ringPart(t)
	parts, twice := 0, 0
	for range 6000 {
		of := []string{"query", "u"}[r.Intn(2)]
		s := impl.Step{Type: of, Sels: sharer{r, map[string][][]impl.Sel{}}.list(of, 1), Brings: []string{"a", "b", "a"}[:r.Intn(4)]}
		things := make([]impl.Value, 1+r.Intn(3))
		for i := range things {
			things[i] = object("_id,_a,k", number(r.Intn(5)), []impl.Value{number(3), null(), text("t")}[r.Intn(3)], object(""))
			things[i].Names, things[i].Kids = things[i].Names[:1+r.Intn(3)], things[i].Kids[:0:3]
			things[i].Kids = things[i].Kids[:len(things[i].Names)]
		}
		x := stepArgs{P: p, Rows: ringStore(r), S: s, Raw: list(things...), Fails: r.Intn(9) == 0}
		if !impl.StoreOk(x.P, x.Rows) || !impl.JsonOk(x.Raw) {
			t.Fatalf("%v, %v", x.Rows, x.Raw)
		}
		got, want := x.do(), doneByHand(x.P, x.Rows, x.S, x.Raw, x.Fails)
		if !same(got, want) {
			t.Fatalf("%s of %v, brought %v: %v, want %v", askByHand(s.Sels), x.Raw, s.Brings, got, want)
		}
		wantApart(t, got, x)
		parts = max(parts, countByHand(got))
		if len(got.Kids[0].Names) < len(s.Sels) {
			twice++
		}
	}
	if parts < 500 || twice < 300 {
		t.Errorf("%d parts at most, %d with a name twice", parts, twice)
	}
}

// How many nulls there are does not matter, as long as an int can tell it.
func TestAnswerNoneMany(t *testing.T) {
	v, want := null(), 1
	for levels := 1; levels <= 70; levels++ {
		v = object("a,b,c", v, number(1), v)
		if want = 2 * want; levels >= 63 {
			want = math.MaxInt
		}
		if got := impl.AnswerNone(impl.Answer{Data: v}); got != want {
			t.Errorf("%d levels of pairs: %d nulls, want %d", levels, got, want)
		}
	}
	v, want = null(), 1
	for levels := 1; levels <= 6; levels++ {
		v = list(slices.Repeat([]impl.Value{v}, 1000)...)
		want *= 1000
		if got := impl.AnswerNone(impl.Answer{Data: list(v, null())}); got != want+1 {
			t.Errorf("%d levels: %d nulls, want %d", levels, got, want+1)
		}
	}
	// As many as an int can tell, and one more: 2 to the power of 63 less one, by all powers below it.
	power, all := null(), list()
	for range 63 {
		all.Kids = append(all.Kids, power)
		power = list(power, power)
	}
	if got := impl.AnswerNone(impl.Answer{Data: all}); got != math.MaxInt {
		t.Errorf("%d nulls", got)
	}
	all.Kids = all.Kids[1:]
	if got := impl.AnswerNone(impl.Answer{Data: all}); got != math.MaxInt-1 {
		t.Errorf("%d nulls", got)
	}
	all.Kids = append(all.Kids, null(), null())
	if got := impl.AnswerNone(impl.Answer{Data: all}); got != math.MaxInt {
		t.Errorf("%d nulls", got)
	}
}

// In data that holds itself what stands within itself counts once.
func TestAnswerNoneWithoutEnd(t *testing.T) {
	kids := []impl.Value{null(), list(), list(null(), null())}
	kids[1].Kids = kids
	for i, c := range []struct {
		data impl.Value
		want int
	}{{kids[1], 3}, {list(null(), kids[1]), 4}, {list(kids[1], kids[1]), 6}} {
		if got := impl.AnswerNone(impl.Answer{Data: c.data}); got != c.want {
			t.Errorf("%d: %d nulls, want %d", i, got, c.want)
		}
	}
	none := []impl.Value{list(), number(1)}
	none[0].Kids = none
	if got := impl.AnswerNone(impl.Answer{Data: list(none[0], null())}); got != 1 {
		t.Errorf("%d nulls", got)
	}
	for _, v := range endless() {
		if got := impl.AnswerNone(impl.Answer{Data: v}); got < 0 {
			t.Errorf("%d nulls", got)
		}
	}
}

// Many short fields in few lists: 703,003,025 bytes, of which each list takes but its own in memory.
func TestRouteTextManyFields(t *testing.T) {
	for _, count := range []int{1, 2, 350} {
		leaves := sels(sel("c"))
		bytes := len("c")
		for _, many := range []int{count, 1000, 1000} {
			leaves = sels(sel("b", slices.Repeat(leaves, many)...))
			bytes = len("b{") + many*bytes + many - 1 + len("}")
		}
		head, tail := "0 part 2 query at /w/x {", "} after 1 with n\n"
		got := impl.RouteText([]impl.Step{{Part: 2, Type: "query", Way: []string{"w", "x"}, Sels: leaves, After: []int{1}, Brings: []string{"n"}}})
		if len(got) != len(head)+bytes+len(tail) || !strings.HasPrefix(got, head+"b{b{b{c") || !strings.HasSuffix(got, "c}}}"+tail) || strings.Count(got, "c") != count*1000000 || strings.Count(got, "{c") != 1000000 {
			t.Errorf("%d: %d bytes: %.60q", count, len(got), got)
		}
	}
}

// Steps whose fields share memory are told as by hand.
func TestRouteTextShared(t *testing.T) {
	r := rand.New(rand.NewSource(141))
	for range 2000 {
		s := sharer{r, map[string][][]impl.Sel{}}
		var steps []impl.Step
		for range 1 + r.Intn(4) {
			steps = append(steps, impl.Step{Part: r.Intn(9) - 4, Type: "u", Way: []string{"a", "", "b"}[:r.Intn(4)], Sels: s.list([]string{"query", "u"}[r.Intn(2)], 1+r.Intn(2)), After: []int{-10, 0, 1000}[:r.Intn(4)], Brings: []string{"", "a", "b"}[:r.Intn(4)]})
		}
		if got := impl.RouteText(steps); got != routeTextByHand(steps) {
			t.Fatalf("%q, want %q", got, routeTextByHand(steps))
		}
	}
}

// Of what has no room only the fields are left out, as long as all lines have some.
func TestRouteTextMoreThanMemory(t *testing.T) {
	held := sels(sel("a"), sel("b"))
	held[1].Kids = held
	pairs := sels(sel("c"))
	for range 64 {
		pairs = sels(sel("a", pairs...), sel("b", pairs...))
	}
	fine := sels(sel("n"))
	got := impl.RouteText([]impl.Step{{Type: "x", Sels: held, After: []int{2}}, {Type: "y", Sels: fine}, {Type: "z", Sels: pairs, Brings: []string{"k"}}, {Sels: held[1:]}, {Type: "y", Sels: fine}})
	if want := "0 part 0 x at /  after 2\n1 part 0 y at / {n}\n2 part 0 z at /  with k\n3 part 0  at / \n4 part 0 y at / {n}\n"; got != want {
		t.Errorf("%.200q, want %q", got, want)
	}
	// Lines that share a long name have no room without their fields either.
	long := strings.Repeat("x", 1000000)
	for _, s := range []impl.Step{{Type: long}, {Way: []string{long}}, {Brings: []string{long}}, {Way: slices.Repeat([]string{long}, 1000000)}} {
		if got := impl.RouteText(slices.Repeat([]impl.Step{s}, 100000)); got != "" {
			t.Errorf("%d bytes: %.60q", len(got), got)
		}
	}
}
