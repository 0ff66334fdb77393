package tests

import (
	"math"
	"math/rand"
	"regexp"
	"strings"
	"testing"

	"loop.example/portolan/impl"
)

// writtenAsks are asks beside the texts that the document has for them.
func writtenAsks() []struct {
	sels []impl.Sel
	text string
} {
	return []struct {
		sels []impl.Sel
		text string
	}{
		{sels(sel("a")), "{a}"},
		{sels(sel("a"), sel("b")), "{a,b}"},
		{sels(sel("b"), sel("a")), "{b,a}"},
		{sels(sel("x:a")), "{x:a}"},
		{sels(sel("b:a"), sel("a:b")), "{b:a,a:b}"},
		{sels(sel("a"), sel("x:a"), sel("y:a")), "{a,x:a,y:a}"},
		{sels(one("a", 0)), "{a(0)}"},
		{sels(one("a", 7), one("b:a", 10)), "{a(7),b:a(10)}"},
		{sels(one("a", 999999)), "{a(999999)}"},
		{sels(sel("a", sel("b"))), "{a{b}}"},
		{sels(sel("a", sel("a", sel("a")))), "{a{a{a}}}"},
		{sels(sel("a", sel("b"), sel("c:d")), sel("e")), "{a{b,c:d},e}"},
		{sels(one("x:a", 12, sel("b"), one("c", 0, sel("d"))), sel("e", sel("b"))), "{x:a(12){b,c(0){d}},e{b}}"},
		{sels(sel("abcdefgh", sel("z9_"))), "{abcdefgh{z9_}}"},
		{sels(sel("query"), sel("data"), sel("id")), "{query,data,id}"},
	}
}

func TestP8WrittenAsTheDocumentSays(t *testing.T) {
	for _, c := range writtenAsks() {
		wantAsk(t, c.text, c.sels, true)
		if got := impl.AskWrite(c.sels); got != c.text {
			t.Errorf("written %q, want %q", got, c.text)
		}
		got, ok := impl.AskRead(c.text)
		if !ok || !same(got, c.sels) {
			t.Errorf("%s is read as %v, %v", c.text, got, ok)
		}
	}
}

func TestP8ThereAndBack(t *testing.T) {
	r := rand.New(rand.NewSource(21))
	for range 3000 {
		wantAsk(t, "by chance", anyAsk(r), true)
	}
}

func TestP8Refused(t *testing.T) {
	for _, line := range []string{
		"", " ", "a", "{", "}", "{}", "{ }", "{a", "a}", "{a}}", "{{a}}", "{{a}", "{a} ", " {a}", "{a}x", "{a}{b}", "{a}\n", "{a }", "{ a}", "{a\x00}", "[a]", "(a)",
		"{,}", "{a,}", "{,a}", "{a,,b}", "{a b}", "{a, b}", "{a;b}", "{a,b", "{a,", "{a.b}", "{a/b}",
		"{:a}", "{a:}", "{:}", "{x::a}", "{x:y:a}", "{x :a}", "{x: a}", "{a:a}", "{x:a,x:b}", "{a,a}", "{a,x:b,x}", "{a,a:b}", "{a:b,a}", "{a,b,c,a{d}}", "{a(1),a(2)}", "{a{b,b}}", "{a{b,c:b,c}}",
		"{a()}", "{a(}", "{a)}", "{a(1}", "{a(1)", "{a1)}", "{a(01)}", "{a(00)}", "{a(-1)}", "{a(-0)}", "{a(+1)}", "{a( 1)}", "{a(1 )}", "{a(x)}", "{a(1)(2)}", "{a(1,2)}", "{a(1.0)}", "{a(0x1)}", "{a(1000000)}", "{a(9999999)}", "{a(99999999999999999999)}", "{a(9223372036854775808)}", "{(1)}", "{(1)a}", "{x(1):a}",
		"{a{}}", "{a{}", "{a{b}", "{a{b}}}", "{a{b}{c}}", "{a{b}(1)}", "{a{b}x}", "{a{b}:c}", "{a{b}c}", "{a{,}}", "{a{b,}}", "{a {b}}", "{a{ b}}", "{{a}b}", "{a:{b}}",
		"{_a}", "{_}", "{_id}", "{x:_a}", "{_x:a}", "{9}", "{9a}", "{A}", "{aA}", "{a-b}", "{é}", "{abcdefghi}", "{x:abcdefghi}", "{abcdefghi:a}", "{a{_b}}",
		"{int}", "{text}", "{bool}", "{part}", "{type}", "{key}", "{far}", "{hidden}", "{shared}", "{needs}", "{x:int}", "{int:x}", "{a{far}}", "{a{far:b}}",
		"{@a}", "{a($0)}", "{a};b{c}", "{a};",
	} {
		wantAskText(t, line, false)
	}
}

// shortAsks is an independent account of the texts that are read, as far as no two names of them are the same.
func shortAsks() *regexp.Regexp {
	field := `[a-z][a-z0-9_]{0,7}(?::[a-z][a-z0-9_]{0,7})?(?:\((?:0|[1-9][0-9]{0,5})\))?`
	ask := `\{` + field + `(?:,` + field + `)*\}`
	for range 4 {
		with := field + `(?:` + ask + `)?`
		ask = `\{` + with + `(?:,` + with + `)*\}`
	}
	return regexp.MustCompile(`^` + ask + `$`)
}

func TestP8AllShortTexts(t *testing.T) {
	texts := shortAsks()
	for _, c := range []struct {
		bytes string
		size  int
	}{{"{}a,:(0)_", 5}, {"{}ab,", 7}, {"{}ab:", 7}, {"a(01)", 7}} {
		line := make([]byte, 0, c.size)
		var all func()
		all = func() {
			for _, whole := range []string{string(line), "{a" + string(line) + "}", "{a{b" + string(line) + ")}}"} {
				want := texts.MatchString(whole)
				got, ok := impl.AskRead(whole)
				wantAskAsWritten(t, whole)
				if ok && !want || !ok && want && !sayTwice(whole) || ok && !isAskByHand(got) {
					t.Errorf("%q: read %v", whole, ok)
				}
			}
			if len(line) < c.size && !t.Failed() {
				for i := 0; i < len(c.bytes); i++ {
					line = append(line, c.bytes[i])
					all()
					line = line[:len(line)-1]
				}
			}
		}
		all()
	}
}

// sayTwice says whether a text has any name twice, so that it may be refused for that.
func sayTwice(line string) bool {
	names := strings.FieldsFunc(line, func(r rune) bool { return !strings.ContainsRune("abcdefghijklmnopqrstuvwxyz_", r) })
	return len(firsts(names)) < len(names)
}

func TestP8OneByteOff(t *testing.T) {
	for _, c := range writtenAsks() {
		for i := 0; i <= len(c.text); i++ {
			for _, b := range []byte("{}(),:09az_A @$;\x00\xff") {
				wantAskAsWritten(t, c.text[:i]+string([]byte{b})+c.text[i:])
			}
			if i < len(c.text) {
				wantAskAsWritten(t, c.text[:i]+c.text[i+1:])
			}
		}
	}
}

// nested is an ask with one field on each of so many levels.
func nested(levels int) []impl.Sel {
	a := sels(sel("a"))
	for range levels - 1 {
		a = sels(sel("a", a...))
	}
	return a
}

// flat is an ask with so many fields on one level, of names of as many bytes as told.
func flat(fields, bytes int) []impl.Sel {
	var a []impl.Sel
	for i := range fields {
		a = append(a, sel(strings.Repeat("q", bytes-2)+string(rune('a'+i/10))+string(rune('0'+i%10))))
	}
	return a
}

// askOf is an ask of 24 fields that is written in just so many bytes, of 217 to about 430.
func askOf(t *testing.T, bytes int) []impl.Sel {
	t.Helper()
	a := flat(24, 8)
	for i := range a {
		if missing := bytes - len(askByHand(a)); missing >= 9 {
			a[i].As = "w" + a[i].Name[1:]
		} else if missing >= 3 {
			a[i].One = true
			a[i].Id = []int{1, 10, 100, 1000, 10000, 100000}[missing-3]
		}
	}
	if len(askByHand(a)) != bytes {
		t.Fatalf("no ask of %d bytes, but of %d", bytes, len(askByHand(a)))
	}
	return a
}

func TestAskLimits(t *testing.T) {
	wantAsk(t, "no fields", nil, false)
	wantAsk(t, "an empty list", []impl.Sel{}, false)
	wantAsk(t, "5 levels", nested(5), true)
	wantAsk(t, "6 levels", nested(6), false)
	wantAsk(t, "5 levels behind one", append(sels(sel("b")), nested(5)...), true)
	wantAsk(t, "6 levels behind one", append(sels(sel("b")), nested(6)...), false)
	wantAsk(t, "24 fields", flat(24, 8), true)
	wantAsk(t, "25 fields", flat(25, 8), false)
	wantAsk(t, "24 fields on two levels", sels(sel("a", flat(11, 8)...), sel("b", flat(11, 8)...)), true)
	wantAsk(t, "25 fields on two levels", sels(sel("a", flat(11, 8)...), sel("b", flat(12, 8)...)), false)
	wantAsk(t, "400 bytes", askOf(t, 400), true)
	wantAsk(t, "401 bytes", askOf(t, 401), false)
	wantAsk(t, "many bytes", askOf(t, 420), false)
	for _, c := range []struct {
		id int
		ok bool
	}{{0, true}, {1, true}, {999999, true}, {1000000, false}, {-1, false}, {-999999, false}, {math.MaxInt, false}, {math.MinInt, false}} {
		wantAsk(t, "an id", sels(one("a", c.id, sel("b"))), c.ok)
		wantAsk(t, "an id below", sels(sel("a", one("x:b", c.id))), c.ok)
		without := sel("a", sel("b"))
		without.Id = c.id
		wantAsk(t, "an id without one", sels(without), c.id == 0)
	}
	wantAskText(t, askByHand(askOf(t, 400)), true)
	wantAskText(t, askByHand(askOf(t, 401)), false)
	wantAskText(t, askByHand(flat(24, 8)), true)
	wantAskText(t, askByHand(flat(25, 8)), false)
	wantAskText(t, askByHand(nested(5)), true)
	wantAskText(t, askByHand(nested(6)), false)
}

func TestAskNames(t *testing.T) {
	for _, c := range []struct {
		name string
		ok   bool
	}{
		{"a", true}, {"z", true}, {"a_", true}, {"a0", true}, {"abcdefgh", true}, {"query", true}, {"_", false}, {"", false}, {"abcdefghi", false}, {"_id", false}, {"0", false}, {"A", false}, {"a b", false}, {"a/b", false}, {"a:b", false}, {"é", false}, {"\x00", false},
		{"int", false}, {"text", false}, {"bool", false}, {"part", false}, {"type", false}, {"key", false}, {"far", false}, {"hidden", false}, {"shared", false}, {"needs", false},
	} {
		wantAsk(t, "a name "+c.name, sels(sel("m"), impl.Sel{Name: c.name}), c.ok)
		wantAsk(t, "a name below "+c.name, sels(sel("m", impl.Sel{Name: c.name}), sel("n")), c.ok)
		wantAsk(t, "a name with as "+c.name, sels(impl.Sel{As: "m", Name: c.name}), c.ok)
		wantAsk(t, "an as "+c.name, sels(impl.Sel{As: c.name, Name: "m"}), c.ok || c.name == "")
		wantAsk(t, "both "+c.name, sels(impl.Sel{As: c.name, Name: c.name}), false)
	}
}

// Two fields of one list must not be answered under one name; of two lists they may.
func TestAskOneNameTwice(t *testing.T) {
	for _, c := range []struct {
		sels []impl.Sel
		ok   bool
	}{
		{sels(sel("a"), sel("a")), false},
		{sels(sel("a"), sel("b:a")), true},
		{sels(sel("a"), sel("a:b")), false},
		{sels(sel("a:b"), sel("a")), false},
		{sels(sel("x:a"), sel("x:b")), false},
		{sels(sel("x:a"), sel("x:a")), false},
		{sels(sel("x:a"), sel("y:a")), true},
		{sels(sel("b:a"), sel("a:b")), true},
		{sels(one("a", 1), one("a", 2)), false},
		{sels(sel("a"), sel("b"), sel("c"), sel("a", sel("d"))), false},
		{sels(sel("a", sel("b"), sel("c"), sel("b"))), false},
		{sels(sel("a", sel("b")), sel("c", sel("b"), sel("b"))), false},
		{sels(sel("a", sel("b")), sel("b", sel("b"))), true},
		{sels(sel("a", sel("a"))), true},
		{sels(sel("a", sel("x:b")), sel("x", sel("x:b"))), true},
		{sels(sel("a", sel("b", sel("c"))), sel("b", sel("c")), sel("c")), true},
	} {
		wantAsk(t, askByHand(c.sels), c.sels, c.ok)
		wantAskText(t, askByHand(c.sels), c.ok)
	}
}

func TestAskOkByChance(t *testing.T) {
	r := rand.New(rand.NewSource(22))
	for range 20000 {
		a := anyAsk(r)
		for range 1 + r.Intn(2) {
			a = breakAsk(r, deep(a))
		}
		wantAsk(t, askByHand(a), a, isAskByHand(a))
		line := askByHand(a)
		if read, ok := impl.AskRead(line); ok && !isAskByHand(read) || isAskByHand(a) && !ok {
			t.Errorf("%q: read as %v, %v", line, read, ok)
		}
	}
}

const checkText = "part a\ntype query\n  n int\n  ns [text]\n  us [u]!\n  u u\n  h int hidden\n  hu u hidden\n" +
	"type u key id\n  id int!\n  v u\n  vs [u]\n  h bool hidden\n  n text\n"

func TestAskFaults(t *testing.T) {
	p, _ := impl.PartRead(checkText)
	for _, c := range []struct {
		text, way string
		code      int
	}{
		{"{n}", "", 0}, {"{n,ns,us{id,v{v{v{n}}}},u(0){vs{n}}}", "", 0}, {"{u(999999){id},x:u{id}}", "", 0}, {"{x:n,y:us{x:id}}", "", 0},
		{"{z}", "z", impl.AskUnknown}, {"{n,x:z}", "x", impl.AskUnknown}, {"{n:z}", "n", impl.AskUnknown}, {"{h}", "h", impl.AskUnknown}, {"{x:h}", "x", impl.AskUnknown}, {"{us{h}}", "us h", impl.AskUnknown}, {"{us{v{z}}}", "us v z", impl.AskUnknown}, {"{us{u{id}}}", "us u", impl.AskUnknown}, {"{us{query}}", "us query", impl.AskUnknown}, {"{id}", "id", impl.AskUnknown}, {"{query{n}}", "query", impl.AskUnknown}, {"{us{ns}}", "us ns", impl.AskUnknown},
		{"{n{id}}", "n", impl.AskLeaf}, {"{ns{id}}", "ns", impl.AskLeaf}, {"{x:u{y:id{z}}}", "x y", impl.AskLeaf}, {"{us{n{n}}}", "us n", impl.AskLeaf},
		{"{us}", "us", impl.AskBare}, {"{u}", "u", impl.AskBare}, {"{x:u{y:v}}", "x y", impl.AskBare}, {"{us{vs}}", "us vs", impl.AskBare},
		{"{n(1)}", "n", impl.AskArg}, {"{ns(0)}", "ns", impl.AskArg}, {"{us(1){id}}", "us", impl.AskArg}, {"{u{v(1){id}}}", "u v", impl.AskArg}, {"{u{vs(1){id}}}", "u vs", impl.AskArg}, {"{u{x:id(1)}}", "u x", impl.AskArg},
	} {
		wantFault(t, p, c.text, c.way, c.code)
	}
}

// Of several that apply to one field the first by its code is told, and of several fields the first, a field ahead of its Kids.
func TestAskWhichFaultComesFirst(t *testing.T) {
	p, _ := impl.PartRead(checkText)
	for _, c := range []struct {
		text, way string
		code      int
	}{
		{"{z(1){id}}", "z", impl.AskUnknown}, {"{z(1)}", "z", impl.AskUnknown}, {"{h{id}}", "h", impl.AskUnknown}, {"{h(1)}", "h", impl.AskUnknown}, {"{hu}", "hu", impl.AskUnknown}, {"{hu(1)}", "hu", impl.AskUnknown}, {"{u{h(1){z}}}", "u h", impl.AskUnknown},
		{"{n(1){id}}", "n", impl.AskLeaf}, {"{ns(1){id}}", "ns", impl.AskLeaf}, {"{u{n(1){z}}}", "u n", impl.AskLeaf},
		{"{us(1)}", "us", impl.AskBare}, {"{u{v(1)}}", "u v", impl.AskBare}, {"{u{vs(1)}}", "u vs", impl.AskBare},
		{"{n{z},z}", "n", impl.AskLeaf}, {"{z,n{z}}", "z", impl.AskUnknown}, {"{us{v},z}", "us v", impl.AskBare}, {"{us{id{z}},n(1)}", "us id", impl.AskLeaf}, {"{n(1),z}", "n", impl.AskArg},
		{"{us(1){z}}", "us", impl.AskArg}, {"{us{v(1){z}}}", "us v", impl.AskArg}, {"{n{a{b{c}}}}", "n", impl.AskLeaf}, {"{us{id,v{n,z},z},z}", "us v z", impl.AskUnknown}, {"{u{v{v{v{v}}}},z}", "u v v v v", impl.AskBare},
		{"{u{id},us,z}", "us", impl.AskBare}, {"{u{v{id}},x:us{n,v},us{z}}", "x v", impl.AskBare},
	} {
		wantFault(t, p, c.text, c.way, c.code)
	}
}

func wantFault(t *testing.T, p impl.Part, line, way string, code int) {
	t.Helper()
	a := ask(t, line)
	got := impl.AskCheck(p, a)
	if got.Code != code || strings.Join(got.Way, " ") != way {
		t.Errorf("%s: fault %v, want %d at %s", line, got, code, way)
	}
	if (impl.AskCost(p, a) == 0) != (code != 0) || (len(impl.AskFields(p, a)) == 0) != (code != 0) {
		t.Errorf("%s: fault %d, cost %d, fields %v", line, code, impl.AskCost(p, a), impl.AskFields(p, a))
	}
}

func TestAskCheckOfWhatIsNotOk(t *testing.T) {
	p, _ := impl.PartRead(checkText)
	wantUnfit(t, "no ask", p, nil)
	wantUnfit(t, "two of one name", p, sels(sel("n"), sel("n")))
	wantUnfit(t, "no part", impl.Part{}, ask(t, "{n}"))
	broken := deep(p)
	broken.Types[1].Key = "zz"
	wantUnfit(t, "a part with a bad key", broken, ask(t, "{n}"))
	wantUnfit(t, "a part with a bad key, and a fault", broken, ask(t, "{n,us}"))
	wantUnfit(t, "neither is ok", broken, sels(sel("_")))
}

func TestAskCheckByChance(t *testing.T) {
	r := rand.New(rand.NewSource(23))
	seen := map[int]int{}
	for range 20000 {
		p, a := fitAsk(r)
		if got := impl.AskCheck(p, a); !isNothing(got) {
			t.Fatalf("%s of %q: fault %v", askByHand(a), byHand(p), got)
		}
		for range r.Intn(3) {
			a = breakAsk(r, deep(a))
		}
		if r.Intn(3) == 0 {
			p = anyPart(r)
		}
		want := impl.AskFault{Code: impl.AskUnknown}
		if isAskByHand(a) {
			want = checkByHand(p, "query", nil, a)
		}
		if got := impl.AskCheck(p, a); !same(got, want) {
			t.Fatalf("%s of %q: fault %v, want %v", askByHand(a), byHand(p), got, want)
		}
		seen[want.Code]++
	}
	if len(seen) < 5 {
		t.Errorf("not every fault came: %v", seen)
	}
}

func TestP9WhatIsHidden(t *testing.T) {
	r := rand.New(rand.NewSource(24))
	for range 3000 {
		p, a := fitAsk(r)
		for i, s := range a {
			hidden := deep(p)
			for j := range hidden.Types[0].Fields {
				if hidden.Types[0].Fields[j].Name == s.Name {
					hidden.Types[0].Fields[j].Hidden = true
				}
			}
			got := impl.AskCheck(hidden, a)
			if got.Code != impl.AskUnknown || len(got.Way) != 1 {
				t.Fatalf("%s of %q: fault %v", askByHand(a), byHand(hidden), got)
			}
			alone := impl.AskCheck(hidden, a[i:i+1])
			if alone.Code != impl.AskUnknown || !same(alone.Way, []string{answered(s)}) {
				t.Fatalf("%s of %q: fault %v", askByHand(a[i:i+1]), byHand(hidden), alone)
			}
		}
	}
}
