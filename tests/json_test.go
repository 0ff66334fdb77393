package tests

import (
	"math"
	"math/rand"
	"regexp"
	"strconv"
	"strings"
	"testing"

	"loop.example/portolan/impl"
)

// written are values beside the texts that the table of the document has for them.
func written() []struct {
	value impl.Value
	text  string
} {
	return []struct {
		value impl.Value
		text  string
	}{
		{null(), `null`},
		{truth(true), `true`},
		{truth(false), `false`},
		{number(0), `0`},
		{number(7), `7`},
		{number(-7), `-7`},
		{number(100), `100`},
		{number(999999), `999999`},
		{number(-999999), `-999999`},
		{text(""), `""`},
		{text("a b"), `"a b"`},
		{text(" ~"), `" ~"`},
		{text(`"`), `"\""`},
		{text(`\`), `"\\"`},
		{text(`\"`), `"\\\""`},
		{text(`"\`), `"\"\\"`},
		{text(`a\n`), `"a\\n"`},
		{text(`[1,{}]`), `"[1,{}]"`},
		{text(strings.Repeat("\\", 24)), `"` + strings.Repeat(`\\`, 24) + `"`},
		{list(), `[]`},
		{list(null()), `[null]`},
		{list(number(1), text("x"), list(), object("")), `[1,"x",[],{}]`},
		{object(""), `{}`},
		{object("b,a", number(1), truth(true)), `{"b":1,"a":true}`},
		{object("_id", number(3)), `{"_id":3}`},
		{object("_", number(3)), `{"_":3}`},
		{object("a1_,abcdefghi", list(), object("a1_", null())), `{"a1_":[],"abcdefghi":{"a1_":null}}`},
	}
}

func TestP1WrittenAsTheTableSays(t *testing.T) {
	for _, c := range written() {
		if !impl.JsonOk(c.value) {
			t.Errorf("not ok: %s", c.text)
		}
		if got := impl.JsonWrite(c.value); got != c.text {
			t.Errorf("written %q, want %q", got, c.text)
		}
		got, ok := impl.JsonRead(c.text)
		if !ok || !same(got, c.value) {
			t.Errorf("%s is read as %v, %v", c.text, got, ok)
		}
	}
}

func TestP1ThereAndBack(t *testing.T) {
	r := rand.New(rand.NewSource(1))
	for range 3000 {
		v := anyValue(r, 4)
		line := impl.JsonWrite(v)
		got, ok := impl.JsonRead(line)
		if !impl.JsonOk(v) || line == "" || !ok || !same(got, v) {
			t.Fatalf("%v is written %q and read %v, %v", v, line, got, ok)
		}
	}
}

// wantRead fails if a text is read, or refused, otherwise than told.
func wantRead(t *testing.T, line string, ok bool) {
	t.Helper()
	got, read := impl.JsonRead(line)
	if read != ok {
		t.Errorf("%.80q: read %v, want %v", line, read, ok)
	}
	if read && (!impl.JsonOk(got) || impl.JsonWrite(got) != line) {
		t.Errorf("%.80q: read as %v", line, got)
	}
	if !read && !isNothing(got) {
		t.Errorf("%.80q: refused, but with %v", line, got)
	}
}

func TestP1Refused(t *testing.T) {
	for _, line := range []string{
		"", " ", "x", "nul", "nulll", "null ", " null", "Null", "tru", "truefalse", "True", "falsee", "\x00", "null\x00", "null\n",
		"-", "-0", "00", "01", "-01", "+1", "1.0", "1e1", "0x1", "1_0", "1 ", "--1", "1-", "1000000", "-1000000", "99999999999999999999", "9223372036854775808",
		`"`, `"a`, `a"`, `"""`, `"\"`, `"\`, `"\a"`, `"\n"`, `"\/"`, `"\u0041"`, `"\\\"`, `"\""x`, "\"\x1f\"", "\"\x7f\"", "\"\x80\"", "\"\n\"", "\"\t\"", "\"\\\x00\"", "\"é\"",
		`[`, `]`, `[,]`, `[1,]`, `[,1]`, `[1 ,2]`, `[1, 2]`, `[ ]`, `[1`, `[1,`, `[1]]`, `[1}`, `[[]`, `[null,,null]`, `[1][2]`, `[x]`,
		`{`, `}`, `{,}`, `{"a"}`, `{"a":}`, `{"a":1,}`, `{,"a":1}`, `{"a" :1}`, `{"a": 1}`, `{ "a":1}`, `{"a":1 }`, `{a:1}`, `{"a":1`, `{"a":1]`, `{"a":1}}`, `{"a":1"b":2}`,
		`{"":1}`, `{"9":1}`, `{"9a":1}`, `{"A":1}`, `{"a-b":1}`, `{"a b":1}`, `{"\"":1}`, `{"abcdefghij":1}`, `{"a":1,"a":1}`, `{"a":1,"b":2,"a":3}`, `{"a":{"b":1,"b":1}}`, `{"a"`, `{"`, `{"a`, `{"a":`,
	} {
		wantRead(t, line, false)
	}
}

// shortTexts is an independent account of the texts that are read, as far as they have few levels and no name twice.
func shortTexts() *regexp.Regexp {
	leaf := `null|true|false|0|-?[1-9][0-9]{0,5}|"(?:[ !#-\[\]-~]|\\["\\])*"`
	v := `(?:` + leaf + `)`
	for range 4 {
		name := `"[a-z_][a-z_0-9]{0,8}":`
		v = `(?:` + leaf + `|\[(?:` + v + `(?:,` + v + `)*)?\]|\{(?:` + name + v + `(?:,` + name + v + `)*)?\})`
	}
	return regexp.MustCompile(`^` + v + `$`)
}

func TestP1AllShortTexts(t *testing.T) {
	texts := shortTexts()
	for _, c := range []struct {
		bytes string
		size  int
	}{{`[]{}",:\a10-`, 5}, {`"\a`, 9}, {`[],{}1`, 7}, {`{"a:}1`, 7}} {
		line := make([]byte, 0, c.size)
		var all func()
		all = func() {
			wantRead(t, string(line), texts.Match(line))
			if len(line) < c.size && !t.Failed() {
				for i := 0; i < len(c.bytes); i++ {
					line = append(line, c.bytes[i])
					all()
					line = line[:len(line)-1]
				}
			}
		}
		all()
	}
}

func TestP1OneByteOff(t *testing.T) {
	texts := shortTexts()
	for _, c := range written() {
		for i := 0; i <= len(c.text); i++ {
			for _, b := range []byte("\\\"[]{},:-019 anz_A\x00\x7f\n\xff") {
				line := c.text[:i] + string([]byte{b}) + c.text[i:]
				if len(c.text) < 40 {
					wantRead(t, line, texts.MatchString(line))
				}
			}
			if i < len(c.text) {
				line := c.text[:i] + c.text[i+1:]
				wantRead(t, line, texts.MatchString(line))
			}
		}
	}
}

// wantValue fails if a value is not ok, or ok, otherwise than told: by JsonOk, JsonWrite and JsonAt.
func wantValue(t *testing.T, what string, v impl.Value, ok bool) {
	t.Helper()
	line := impl.JsonWrite(v)
	got, at := impl.JsonAt(v, nil)
	if impl.JsonOk(v) != ok || (line != "") != ok || at != ok {
		t.Errorf("%s: ok %v, written %.40q, found %v, want %v", what, impl.JsonOk(v), line, at, ok)
	}
	if ok && !same(got, v) || !ok && !isNothing(got) {
		t.Errorf("%s: at no way there is %v", what, got)
	}
	if ok {
		wantRead(t, line, true)
	}
}

func TestP1NotOk(t *testing.T) {
	kid, names := []impl.Value{null()}, []string{"a"}
	for i, v := range []impl.Value{
		{}, {Sort: -1}, {Sort: 7}, {Sort: 8, Num: 1},
		{Sort: 1, Num: 1}, {Sort: 1, Text: "x"}, {Sort: 1, Names: names}, {Sort: 1, Kids: kid}, {Sort: 1, Names: names, Kids: kid},
		{Sort: 2, Num: 2}, {Sort: 2, Num: -1}, {Sort: 2, Text: "x"}, {Sort: 2, Names: names}, {Sort: 2, Kids: kid},
		{Sort: 3, Text: "1"}, {Sort: 3, Names: names}, {Sort: 3, Kids: kid}, {Sort: 3, Num: 1000000}, {Sort: 3, Num: -1000000}, {Sort: 3, Num: math.MinInt}, {Sort: 3, Num: math.MaxInt},
		{Sort: 4, Num: 1, Text: "x"}, {Sort: 4, Names: names}, {Sort: 4, Kids: kid}, {Sort: 4, Text: "\x1f"}, {Sort: 4, Text: "\x7f"}, {Sort: 4, Text: "a\xff"}, {Sort: 4, Text: "a\nb"},
		{Sort: 5, Num: 1}, {Sort: 5, Text: "x"}, {Sort: 5, Names: names}, {Sort: 5, Names: names, Kids: kid}, {Sort: 5, Kids: []impl.Value{{}}},
		{Sort: 6, Num: 1}, {Sort: 6, Text: "x"}, {Sort: 6, Names: names}, {Sort: 6, Kids: kid}, {Sort: 6, Names: []string{"a", "b"}, Kids: kid},
		object("a,a", null(), null()), object("A", null()), object("1", null()), object("a-", null()), object("abcdefghij", null()), object("a", impl.Value{}),
		{Sort: 6, Names: []string{""}, Kids: kid},
	} {
		wantValue(t, "case "+strconv.Itoa(i), v, false)
		wantValue(t, "in a list, case "+strconv.Itoa(i), list(null(), v), false)
		wantValue(t, "in an object, case "+strconv.Itoa(i), object("a", list(v)), false)
	}
}

func deepList(levels int) impl.Value {
	v := list()
	for range levels - 1 {
		v = list(v)
	}
	return v
}

func deepObject(levels int) impl.Value {
	v := number(1)
	for range levels - 1 {
		v = object("a", v)
	}
	return v
}

func wideList(parts int) impl.Value {
	v := list()
	for range parts - 1 {
		v.Kids = append(v.Kids, null())
	}
	return v
}

// wideObject has so many parts, half of them in lists.
func wideObject(parts int) impl.Value {
	v := object("")
	for i := 1; i < parts; i += 2 {
		v.Names = append(v.Names, "n"+strconv.Itoa(i))
		if i+1 < parts {
			v.Kids = append(v.Kids, list(truth(true)))
		} else {
			v.Kids = append(v.Kids, null())
		}
	}
	return v
}

func TestP1Limits(t *testing.T) {
	for _, c := range []struct {
		what       string
		last, more impl.Value
	}{
		{"levels of lists", deepList(16), deepList(17)},
		{"levels of objects", deepObject(16), deepObject(17)},
		{"parts of a list", wideList(600), wideList(601)},
		{"parts of an object", wideObject(600), wideObject(601)},
		{"parts of lists", list(wideList(299), wideList(300)), list(wideList(300), wideList(300))},
		{"bytes of a text", text(strings.Repeat("t", 24)), text(strings.Repeat("t", 25))},
		{"bytes of a text with strokes", text(strings.Repeat(`"`, 24)), text(strings.Repeat(`"`, 25))},
		{"numbers", number(999999), number(1000000)},
		{"numbers below 0", number(-999999), number(-1000000)},
		{"bytes of a word", object("abcdefghi", null()), object("abcdefghij", null())},
		{"first bytes of a text", text(" "), text("\x1f")},
		{"last bytes of a text", text("~"), text("\x7f")},
	} {
		wantValue(t, c.what, c.last, true)
		wantValue(t, c.what+", one more", c.more, false)
	}
	for _, c := range []struct{ last, more string }{
		{strings.Repeat("[", 16) + strings.Repeat("]", 16), strings.Repeat("[", 17) + strings.Repeat("]", 17)},
		{strings.Repeat(`{"a":`, 15) + "0" + strings.Repeat("}", 15), strings.Repeat(`{"a":`, 16) + "0" + strings.Repeat("}", 16)},
		{"[" + strings.Repeat("1,", 598) + "1]", "[" + strings.Repeat("1,", 599) + "1]"},
		{"[" + strings.Repeat("[],", 598) + "{}]", "[" + strings.Repeat("[],", 599) + "{}]"},
		{`"` + strings.Repeat("t", 24) + `"`, `"` + strings.Repeat("t", 25) + `"`},
		{`"` + strings.Repeat(`\"`, 24) + `"`, `"` + strings.Repeat(`\"`, 25) + `"`},
		{"999999", "1000000"}, {"-999999", "-1000000"},
		{`{"abcdefghi":1}`, `{"abcdefghij":1}`},
	} {
		wantRead(t, c.last, true)
		wantRead(t, c.more, false)
	}
}

func TestP2WhatIsAlongAWay(t *testing.T) {
	v, _ := impl.JsonRead(`{"a":[1,{"b":true},[]],"_id":{"a":"x"},"n":null,"long":[0,1,2,3,4,5,6,7,8,9,10]}`)
	for _, c := range []struct {
		way, want string
	}{
		{"", impl.JsonWrite(v)}, {"a", `[1,{"b":true},[]]`}, {"a 0", `1`}, {"a 1", `{"b":true}`}, {"a 1 b", `true`}, {"a 2", `[]`},
		{"_id", `{"a":"x"}`}, {"_id a", `"x"`}, {"n", `null`}, {"long 10", `10`}, {"long 9", `9`},
	} {
		got, ok := impl.JsonAt(v, strings.Fields(c.way))
		if !ok || impl.JsonWrite(got) != c.want {
			t.Errorf("%q: %v, %v", c.way, got, ok)
		}
	}
	for _, way := range [][]string{
		{"b"}, {""}, {"0"}, {"A"}, {"a", "3"}, {"a", "-1"}, {"a", "-0"}, {"a", "+1"}, {"a", "01"}, {"a", "00"}, {"a", ""}, {"a", " 1"}, {"a", "1 "}, {"a", "0x1"}, {"a", "1_0"}, {"a", "b"},
		{"a", "0", "0"}, {"a", "1", "c"}, {"a", "1", "0"}, {"a", "1", "b", "b"}, {"a", "2", "0"}, {"n", "n"}, {"n", "0"}, {"_id", "a", "0"}, {"long", "11"}, {"long", "010"},
		{"a", "18446744073709551616"}, {"a", "18446744073709551617"}, {"a", "4294967297"}, {"a", "9223372036854775808"}, {"a\x00"}, {"a", "\xff"},
	} {
		got, ok := impl.JsonAt(v, way)
		if ok || !isNothing(got) {
			t.Errorf("%q: %v, %v", way, got, ok)
		}
	}
}

func TestP2WayOfWays(t *testing.T) {
	r := rand.New(rand.NewSource(2))
	steps := []string{"a", "_id", "abcdefghi", "z9", "_", "0", "1", "2", "3", "00", "x", ""}
	for range 20000 {
		v := anyValue(r, 4)
		way := make([]string, r.Intn(5))
		for i := range way {
			way[i] = steps[r.Intn(len(steps))]
		}
		whole, found := impl.JsonAt(v, way)
		for cut := range len(way) + 1 {
			first, _ := impl.JsonAt(v, way[:cut])
			second, ok := impl.JsonAt(first, way[cut:])
			if ok != found || !same(second, whole) {
				t.Fatalf("%v at %q and %q: %v, %v", v, way[:cut], way[cut:], second, ok)
			}
		}
		if !found && !isNothing(whole) {
			t.Fatalf("%v at %q: %v", v, way, whole)
		}
	}
}

// Each part of a value is found along the way that the value itself tells.
func TestP2EachPartIsFound(t *testing.T) {
	r := rand.New(rand.NewSource(3))
	var walk func(whole, v impl.Value, way []string)
	walk = func(whole, v impl.Value, way []string) {
		got, ok := impl.JsonAt(whole, way)
		if !ok || !same(got, v) {
			t.Errorf("%v at %q: %v, %v", whole, way, got, ok)
		}
		for i, kid := range v.Kids {
			step := strconv.Itoa(i)
			if v.Sort == impl.JsonObj {
				step = v.Names[i]
			}
			walk(whole, kid, append(way[:len(way):len(way)], step))
		}
	}
	for range 300 {
		v := anyValue(r, 4)
		walk(v, v, nil)
	}
	for _, v := range []impl.Value{deepList(16), deepObject(16), wideList(600), wideObject(600)} {
		walk(v, v, nil)
	}
}
