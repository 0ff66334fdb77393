package tests

import (
	"math"
	"math/rand"
	"slices"
	"strconv"
	"strings"
	"testing"

	"loop.example/portolan/impl"
)

// squareList is a list of lists of nulls, all inner lists being one and the same in memory.
func squareList(lists, nulls int) impl.Value {
	inner := list(slices.Repeat([]impl.Value{null()}, nulls)...)
	return list(slices.Repeat([]impl.Value{inner}, lists)...)
}

// squareText is how squareList is written.
func squareText(lists, nulls int) string {
	inner := "[" + strings.Repeat("null,", nulls-1) + "null]"
	return "[" + strings.Repeat(inner+",", lists-1) + inner + "]"
}

// wantSquare fails if a value is no list of lists of nulls, or shares memory with the one of which it is a copy, or two of its lists do.
func wantSquare(t *testing.T, what string, got, of impl.Value) {
	t.Helper()
	if got.Sort != impl.JsonList || len(got.Kids) != len(of.Kids) || &got.Kids[0] == &of.Kids[0] {
		t.Fatalf("%s: a value of the sort %d with %d in it", what, got.Sort, len(got.Kids))
	}
	met := map[*impl.Value]int{}
	for i, inner := range got.Kids {
		whole := inner.Sort == impl.JsonList && len(inner.Kids) == len(of.Kids[i].Kids) && &inner.Kids[0] != &of.Kids[i].Kids[0]
		for _, kid := range inner.Kids {
			whole = whole && kid.Sort == impl.JsonNull && len(kid.Kids) == 0
		}
		if !whole || met[&inner.Kids[0]] > 0 {
			t.Fatalf("%s: another list at %d", what, i)
		}
		met[&inner.Kids[0]]++
	}
}

// P20 and P12 of data that has many parts: how many there are does not matter, as long as memory has room for them.
func TestManyParts(t *testing.T) {
	p := part(t, "part p\ntype query\n  a int\n")
	for _, lists := range []int{2046, 2047, 2048, 3000} {
		v := squareList(lists, 2048)
		if got := impl.AnswerText(impl.Answer{Data: v}); got != `{"data":`+squareText(lists, 2048)+`}` {
			t.Errorf("%d lists are told as %.60s", lists, got)
		}
		rows := []impl.Row{row("query", 0, "a", v)}
		got, ok := impl.StoreGet(rows, "query", 0, "a")
		if !ok {
			t.Fatalf("%d lists are not found", lists)
		}
		wantSquare(t, "StoreGet", got, v)
		cut := impl.StoreCut(p, rows)
		if len(cut) != 1 || cut[0].Type != "query" || cut[0].Id != 0 || len(cut[0].Cells) != 1 || cut[0].Cells[0].Name != "a" {
			t.Fatalf("%d lists are cut to %d rows", lists, len(cut))
		}
		wantSquare(t, "StoreCut", cut[0].Cells[0].Value, v)
		if impl.StoreOk(p, rows) {
			t.Errorf("%d lists are a number", lists)
		}
	}
}

// Many parts that share nothing, and some that share only some of a list.
func TestManyPartsApart(t *testing.T) {
	kids := slices.Repeat([]impl.Value{number(7)}, 5000000)
	rows := []impl.Row{row("query", 0, "a", list(kids...))}
	if got, ok := impl.StoreGet(rows, "query", 0, "a"); !ok || len(got.Kids) != len(kids) || got.Kids[4999999].Num != 7 || &got.Kids[0] == &kids[0] {
		t.Errorf("a list of millions: %v", ok)
	}
	if got := impl.AnswerText(impl.Answer{Data: list(kids...)}); got != `{"data":[`+strings.Repeat("7,", 4999999)+`7]}` {
		t.Errorf("a list of millions: %.60s", got)
	}
	few := []impl.Value{number(0), number(1), number(2), list(), list()}
	few[3].Kids, few[4].Kids = few[:2], few[1:4]
	if got := impl.AnswerText(impl.Answer{Data: list(few...)}); got != `{"data":[0,1,2,[0,1],[1,2,[0,1]]]}` {
		t.Errorf("lists that overlap: %s", got)
	}
	// A list that begins where another one does, but is shorter, does not hold itself.
	short := []impl.Value{number(5), list()}
	short[1].Kids = short[:1]
	rows = []impl.Row{row("query", 0, "a", list(short...))}
	if got, ok := impl.StoreGet(rows, "query", 0, "a"); !ok || impl.JsonWrite(got) != "[5,[5]]" {
		t.Errorf("a shorter list: %v, %v", got, ok)
	}
	deepest := deepList(5000000)
	if got := impl.AnswerText(impl.Answer{Data: deepest}); got != `{"data":`+strings.Repeat("[", 5000000)+strings.Repeat("]", 5000000)+`}` {
		t.Errorf("millions of levels: %.60s", got)
	}
}

// Many short parts in few lists: 902,002,029 bytes at most, of which each list takes but its own in memory.
func TestAnswerTextManyParts(t *testing.T) {
	for _, count := range []int{1, 2, 450} {
		v, bytes := number(7), 1
		for _, many := range []int{count, 1000, 1000} {
			v = list(slices.Repeat([]impl.Value{v}, many)...)
			bytes = many*bytes + many + 1
		}
		head, tail := `{"data":{"x":`, `},"wrong":[{"way":[],"code":1}]}`
		got := impl.AnswerText(impl.Answer{Data: object("x", v), Wrongs: []impl.Wrong{{Code: 1}}})
		if len(got) != len(head)+bytes+len(tail) || !strings.HasPrefix(got, head+"[[[7") || !strings.HasSuffix(got, "7]]]"+tail) || strings.Count(got, "7") != count*1000000 || strings.Count(got, "[7") != 1000000 {
			t.Errorf("%d: %d bytes: %.60s", count, len(got), got)
		}
	}
}

// sharedValue is a value by chance whose lists and names share memory with those of others, also in part, and also where the sort is another one.
func sharedValue(r *rand.Rand, kids, names int, pool []impl.Value) impl.Value {
	if r.Intn(3) == 0 {
		return []impl.Value{null(), truth(true), truth(false), number(-r.Intn(2000)), number(math.MaxInt), number(math.MinInt), text(""), text(`a"b\"`), text("\x00\xff\\")}[r.Intn(9)]
	}
	words := []string{"a", "b", "", "long_name", `"`, "a"}
	from := r.Intn(len(pool) - kids + 1)
	v := list(pool[from : from+kids]...)
	if r.Intn(2) == 0 {
		v.Sort, v.Names = impl.JsonObj, words[names:names+kids]
	}
	return v
}

// Values that share memory are told as if they did not.
func TestAnswerTextShared(t *testing.T) {
	r := rand.New(rand.NewSource(39))
	longest := 0
	for range 3000 {
		// No list is moved when one more comes behind it.
		pool := append(make([]impl.Value, 0, 40), null(), number(1), text("x"))
		for range 2 + r.Intn(30) {
			kids := r.Intn(4)
			pool = append(pool, sharedValue(r, kids, r.Intn(7-kids), pool[max(0, len(pool)-5):]))
		}
		data := pool[len(pool)-1]
		want := `{"data":` + looseText(data) + `}`
		if got := impl.AnswerText(impl.Answer{Data: data}); got != want {
			t.Fatalf("%.200s, want %.200s", got, want)
		}
		longest = max(longest, len(want))
	}
	if longest < 1000 {
		t.Errorf("%d bytes at most", longest)
	}
}

// looseText is a value as it is written, whatever its texts, names and numbers are.
func looseText(v impl.Value) string {
	var kids []string
	for i, kid := range v.Kids {
		line := looseText(kid)
		if v.Sort == impl.JsonObj {
			line = `"` + v.Names[i] + `":` + line
		}
		kids = append(kids, line)
	}
	switch v.Sort {
	case impl.JsonNull:
		return "null"
	case impl.JsonBool:
		return strconv.FormatBool(v.Num == 1)
	case impl.JsonInt:
		return strconv.Itoa(v.Num)
	case impl.JsonText:
		return `"` + strings.NewReplacer(`"`, `\"`, `\`, `\\`).Replace(v.Text) + `"`
	case impl.JsonList:
		return "[" + strings.Join(kids, ",") + "]"
	}
	return "{" + strings.Join(kids, ",") + "}"
}

// What is greater than memory, as its lists share what they have, cannot be told, but is answered.
func TestMoreThanMemory(t *testing.T) {
	long := squareList(8192, 2048)
	long.Kids[0].Kids[0] = text(strings.Repeat("x", 4000000))
	names := impl.Value{Sort: impl.JsonNull, Names: make([]string, 4000000)}
	pairs := null()
	for range 64 {
		pairs = list(pairs, pairs)
	}
	if got := impl.AnswerText(impl.Answer{Data: long}); got != `{"wrong":0}` {
		t.Errorf("a long text at many places: %.60s", got)
	}
	if got, ok := impl.StoreGet([]impl.Row{row("query", 0, "a", list(slices.Repeat([]impl.Value{names}, 1000)...))}, "query", 0, "a"); ok || !isNothing(got) {
		t.Error("many names at many places are found")
	}
	if got := impl.AnswerText(impl.Answer{Data: pairs}); got != `{"wrong":0}` {
		t.Errorf("pairs of pairs: %.60s", got)
	}
	way := []string{strings.Repeat("x", 1000000)}
	if got := impl.AnswerText(impl.Answer{Data: null(), Wrongs: slices.Repeat([]impl.Wrong{{Way: way}}, 1000000)}); got != `{"wrong":0}` {
		t.Errorf("long ways: %.60s", got)
	}
	p := part(t, "part p\ntype query\n  a int\n  b int\n")
	cut := impl.StoreCut(p, []impl.Row{row("query", 0, "a,b", pairs, number(1))})
	if !same(cut, []impl.Row{row("query", 0, "a,b", impl.Value{}, number(1))}) || impl.StoreOk(p, cut) {
		t.Error("pairs of pairs are cut to something")
	}
	// What is not written does not matter: but for its Sorts.
	lost := impl.Value{Sort: impl.JsonNull, Kids: pairs.Kids}
	if got := impl.AnswerText(impl.Answer{Data: lost}); got != `{"data":null}` {
		t.Errorf("null with kids: %.60s", got)
	}
	ring := make([]impl.Value, 1)
	ring[0] = impl.Value{Sort: impl.JsonInt, Num: 3, Kids: ring}
	if got := impl.AnswerText(impl.Answer{Data: ring[0]}); got != `{"data":3}` {
		t.Errorf("a number with itself: %.60s", got)
	}
	ring[0] = impl.Value{Sort: impl.JsonNull, Kids: []impl.Value{bad()}}
	if got := impl.AnswerText(impl.Answer{Data: ring[0]}); got != `{"wrong":0}` {
		t.Errorf("null with what has no Sort: %.60s", got)
	}
}
