package tests

import (
	"math"
	"math/rand"
	"regexp"
	"slices"
	"strconv"
	"strings"
	"testing"

	"loop.example/portolan/impl"
)

var (
	innermost = regexp.MustCompile(`\{` + oneItem + `(?:,` + oneItem + `)*\}`)
	leader    = regexp.MustCompile(`^[a-z0-9_]*`)
	ownName   = regexp.MustCompile(`@[a-z0-9_]+`)
	openPlace = regexp.MustCompile(`\$[0-9]+`)
)

const oneItem = `(?:@[a-z0-9_]+|[a-z0-9_]+(?::[a-z0-9_]+)?(?:\((?:0|[1-9][0-9]*|\$0|\$[1-9][0-9]*)\))?K?)`

// hasShape says whether a text is of fields, names for fields, and numbers, as it must be read: lists that have no others are marked, from the innermost out.
func hasShape(line string) bool {
	if strings.Contains(line, "K") {
		return false
	}
	for {
		next := innermost.ReplaceAllString(line, "K")
		if next == line {
			return line == "K"
		}
		line = next
	}
}

// byText is an independent account of AskExpand: it lays texts into texts.
type byText struct {
	parts  map[string]string
	values []int
	count  int
}

func expandByText(line string, values []int) ([]impl.Sel, bool) {
	pieces := strings.Split(line, ";")
	if len(line) > 400 || len(pieces) > 7 {
		return nil, false
	}
	b := byText{parts: map[string]string{}, values: values}
	for _, piece := range pieces[1:] {
		name := leader.FindString(piece)
		if _, twice := b.parts[name]; twice || !isNameByHand(name) {
			return nil, false
		}
		b.parts[name] = piece[len(name):]
	}
	flat, ok := b.lay(pieces[0], nil)
	if !ok {
		return nil, false
	}
	return impl.AskRead(flat)
}

func (b *byText) lay(line string, open []string) (string, bool) {
	if !hasShape(line) {
		return "", false
	}
	// Each list has one thing more than commas.
	b.count += strings.Count(line, ",") + strings.Count(line, "{")
	ok := b.count <= 48
	line = openPlace.ReplaceAllStringFunc(line, func(place string) string {
		n, err := strconv.Atoi(place[1:])
		if err != nil || n >= len(b.values) {
			ok = false
			return ""
		}
		return strconv.Itoa(b.values[n])
	})
	line = ownName.ReplaceAllStringFunc(line, func(name string) string {
		name = name[1:]
		part, there := b.parts[name]
		if !ok || !there || slices.Contains(open, name) {
			ok = false
			return ""
		}
		inside, good := b.lay(part, append(slices.Clone(open), name))
		if !good {
			ok = false
			return ""
		}
		return inside[1 : len(inside)-1]
	})
	return line, ok
}

// wantExpand fails if a text is expanded otherwise than told: an ask's text, or the empty one if it is refused.
func wantExpand(t *testing.T, line string, values []int, want string) {
	t.Helper()
	got, ok := impl.AskExpand(line, values)
	if ok != (want != "") || ok && impl.AskWrite(got) != want || !ok && !isNothing(got) {
		t.Errorf("%.200q with %v: %q, %v, want %q", line, values, askByHand(got), ok, want)
	}
	wantAsByText(t, line, values)
}

// wantAsByText fails if a text is expanded otherwise than by laying texts into texts, or if what comes of it is not ok or has something to expand still.
func wantAsByText(t *testing.T, line string, values []int) bool {
	t.Helper()
	want, ok := expandByText(line, values)
	got, read := impl.AskExpand(line, values)
	if read != ok || !same(got, want) {
		t.Fatalf("%q with %v: %q, %v, want %q, %v", line, values, askByHand(got), read, askByHand(want), ok)
	}
	if !read {
		return false
	}
	again, ok := impl.AskExpand(impl.AskWrite(got), nil)
	if !isAskByHand(got) || !ok || !same(again, got) {
		t.Fatalf("%q with %v: %q, then %q, %v", line, values, askByHand(got), askByHand(again), ok)
	}
	return true
}

func TestExpand(t *testing.T) {
	for _, c := range []struct {
		text   string
		values []int
		want   string
	}{
		{"{a}", nil, "{a}"}, {"{a,x:b(3){c}}", []int{7}, "{a,x:b(3){c}}"},
		{"{@f};f{a}", nil, "{a}"}, {"{b,@f,c};f{a,d}", nil, "{b,a,d,c}"}, {"{b{@f},a};f{c,d}", nil, "{b{c,d},a}"}, {"{@f,@g};f{a};g{b}", nil, "{a,b}"}, {"{@g,@f};f{a};g{b}", nil, "{b,a}"}, {"{x:b(1){@f}};f{y:c(2){d}}", nil, "{x:b(1){y:c(2){d}}}"},
		{"{@f,a};f{b{@g}};g{c}", nil, "{b{c},a}"}, {"{@g};f{c};g{b{@f}}", nil, "{b{c}}"}, {"{a{@f},b{@f}};f{c}", nil, "{a{c},b{c}}"}, {"{a{@f},@f};f{c}", nil, "{a{c},c}"}, {"{@f,z{@f{}}};f{c}", nil, ""}, {"{a{@f},b{@g}};f{@g};g{c}", nil, "{a{c},b{c}}"}, {"{@g,b{@f}};f{@g};g{c}", nil, "{c,b{c}}"},
		{"{a($0)}", []int{5}, "{a(5)}"}, {"{a($1){b},x:a($0){b}}", []int{3, 4}, "{a(4){b},x:a(3){b}}"}, {"{a($0),x:a($0)}", []int{0}, "{a(0),x:a(0)}"}, {"{@f};f{a($0)}", []int{999999}, "{a(999999)}"}, {"{a($10)}", []int{0, 1, 2, 3, 4, 5, 6, 7, 8, 9, 42}, "{a(42)}"}, {"{a($0)}", []int{5, -1, 1000000}, "{a(5)}"},
		{"{query{@query}};query{query}", nil, "{query{query}}"}, {"{f{@f}};f{f}", nil, "{f{f}}"}, {"{@f};f{f}", nil, "{f}"}, {"{a{@abcdefgh}};abcdefgh{b}", nil, "{a{b}}"},
		// Parts that are not asked for are looked at for their name alone.
		{"{a};f{b}", nil, "{a}"}, {"{a};f", nil, "{a}"}, {"{a};f!", nil, "{a}"}, {"{a};f{}", nil, "{a}"}, {"{a};f{@f}", nil, "{a}"}, {"{a};f{@g};g{@f}", nil, "{a}"}, {"{a};f{@z}", nil, "{a}"}, {"{a};f{b($0)}", nil, "{a}"}, {"{a};f{b{c{d{e{g{h}}}}}}", nil, "{a}"}, {"{a};f}{;g,,", nil, "{a}"}, {"{a};f ", nil, "{a}"}, {"{a};f\x00\xff", nil, "{a}"}, {"{@g};f{b,b};g{a}", nil, "{a}"}, {"{@g};f{@f};g{a}", nil, "{a}"},
	} {
		wantExpand(t, c.text, c.values, c.want)
	}
}

func TestExpandRefused(t *testing.T) {
	for _, line := range []string{
		// The text is not so.
		"", ";", "{a", "{a}}", "{}", "{a,}", "{a }", "{a}x", " {a}", "a", "@f;f{a}", ";f{a}", "{a{}}", "{a(1}", "{:a}", "{a(01)}", "{a;f{b}}",
		"{@};f{a}", "{@f", "{@f}x;f{a}", "{@@f};f{a}", "{@f@f};f{a}", "{@f,};f{a}", "{,@f};f{a}", "{@f }", "{@ f};f{a}", "{x:@f};f{a}", "{@f:x};f{a}", "{@f(1)};f{a}", "{@f{b}};f{a}", "{a@f};f{a}", "{a{b}@f};f{c}", "{@F};f{a}", "{@fF};f{a}", "{@f/};f{a}",
		"{@f};f{a}x", "{@f};f{a}}", "{@f};f", "{@f};f{", "{@f};f{}", "{a,@f};f{}", "{@f};fa", "{@f};f a", "{@f};f{a,}", "{@f};f,a", "{@f};f@g;g{a}", "{@f};f!{a}", "{@f};f {a}", "{@f};f{a},b{c}", "{x{@f}};f{a},b{c}", "{@f};f{a }", "{@f};f{a}{b}", "{@f};f{@g};g",
		// A name that leads a part is none, or leads two.
		"{a};", "{a};{b}", "{a};F{b}", "{a};_f{b}", "{a};1{b}", "{a};int{b}", "{a};needs{b}", "{a};abcdefghi{b}", "{a};!f{b}", "{a}; f{b}", "{a};f{b};", "{a};;f{b}", "{a};@f{b}", "{@_f};_f{a}", "{@int};int{a}", "{@f};f{a};G{b}",
		"{a};f{b};f{c}", "{@f};f{a};f{a}", "{a};f{b};g{b};f{b}", "{a};f;f",
		// One that is asked for leads none.
		"{@f}", "{a,@f};g{b}", "{@f};f{@g}", "{@f};f{a{@h}};g{b}", "{@ff};f{a}", "{@f};ff{a}", "{a{@a}}",
		// A part comes to itself.
		"{@f};f{@f}", "{@f};f{a,@f}", "{@f};f{a{@f}}", "{@f};f{@g};g{@f}", "{a{@f}};f{b{@g}};g{c{@f}}", "{@f};f{@g};g{@h};h{@g}", "{a,@f};f{b{@g},@g};g{@h};h{@f}", "{@f};f{@f,@zz}",
		// There is no such place of values, or it is none.
		"{a($0)}", "{a($1)}", "{@f};f{a($0)}", "{a($)}", "{a($$0)}", "{a(0$)}", "{a($-1)}", "{a($+0)}", "{a($ 0)}", "{a($0 )}", "{a($0}", "{$0}", "{a$0}", "{a:$0}", "{@$0};f{a}", "{a($99999999999999999999)}",
		// What comes of it is no ask that is ok.
		"{@f,a};f{a}", "{a,@f};f{a}", "{@f,@f};f{a}", "{@f,@g};f{a};g{b,a}", "{@f,@g};f{x:a};g{x:b}", "{@f,b:a};f{b}", "{@f};f{a,a}", "{@f};f{a:a}", "{@f};f{_a}", "{@f};f{far}", "{@f};f{a(1000000)}", "{@f};f{abcdefghi}", "{a,a}", "{x{@f}};f{a,@g};g{a}",
	} {
		wantExpand(t, line, nil, "")
	}
	for _, c := range []struct {
		text   string
		values []int
	}{
		{"{a($0)}", []int{}}, {"{a($1)}", []int{1}}, {"{a($2)}", []int{1, 2}}, {"{a($00)}", []int{1}}, {"{a($01)}", []int{1, 2}}, {"{a($0)}", []int{-1}}, {"{a($0)}", []int{1000000}}, {"{a($0)}", []int{math.MinInt}}, {"{a($0)}", []int{math.MaxInt}}, {"{a($0),b($1)}", []int{1}}, {"{@f,a($0)};f{a}", []int{1}}, {"{a($18446744073709551616)}", []int{1}}, {"{a($-1)}", []int{1}},
	} {
		wantExpand(t, c.text, c.values, "")
	}
}

// chain is a text in which so many `@f` stand, each a field's Kids, and each of them is gone through by as many parts as told till a field comes; and so many fields alone.
func chain(names, parts, alone int) string {
	var fields []string
	for i := range names {
		fields = append(fields, "n"+strconv.Itoa(i)+"{@p0}")
	}
	for i := range alone {
		fields = append(fields, "m"+strconv.Itoa(i))
	}
	line := "{" + strings.Join(fields, ",") + "}"
	for i := range parts - 1 {
		line += ";p" + strconv.Itoa(i) + "{@p" + strconv.Itoa(i+1) + "}"
	}
	return line + ";p" + strconv.Itoa(parts-1) + "{c}"
}

func TestExpandLimits(t *testing.T) {
	wantSize := func(what, line string, fields int) {
		t.Helper()
		got, ok := impl.AskExpand(line, nil)
		if ok != (fields > 0) || impl.AskSize(got) != fields {
			t.Errorf("%s: %q: %d fields, %v", what, line, impl.AskSize(got), ok)
		}
		wantAsByText(t, line, nil)
	}
	// Each of the names comes to 8: a field, six `@`, and a field.
	wantSize("48 gone through", chain(6, 6, 0), 12)
	wantSize("49 gone through", chain(6, 6, 1), 0)
	wantSize("48 gone through", chain(5, 6, 8), 18)
	wantSize("49 gone through", chain(5, 6, 9), 0)
	wantSize("48 gone through, less deep", chain(12, 2, 0), 24)
	wantSize("47 gone through, but 25 fields", chain(11, 2, 3), 0)
	wantSize("24 fields come", chain(11, 2, 2), 24)

	wantSize("6 parts", "{a};b;c;d;e;f;g", 1)
	wantSize("7 parts", "{a};b;c;d;e;f;g;h", 0)
	wantSize("6 parts, all asked for", "{@b,@c,@d,@e,@f,@g};b{b};c{c};d{d};e{e};f{f};g{g}", 6)
	wantSize("7 parts, all asked for", "{@b,@c,@d,@e,@f,@g,@h};b{b};c{c};d{d};e{e};f{f};g{g};h{h}", 0)

	wantSize("400 bytes", "{a};f"+strings.Repeat("x", 3)+strings.Repeat("!", 392), 1)
	wantSize("401 bytes", "{a};f"+strings.Repeat("x", 3)+strings.Repeat("!", 393), 0)

	wantSize("level 5", "{a{b{c{d{@f}}}}};f{e,g}", 6)
	wantSize("level 6", "{a{b{c{d{@f}}}}};f{e{g}}", 0)
	wantSize("level 6 of one name", "{a{b{c{d{e{@f}}}}}};f{g}", 0)
	wantSize("levels by parts", "{@f};f{a{@g}};g{b{@h}};h{c{@i}};i{d{@j}};j{e}", 5)
	wantSize("one level more by parts", "{@f};f{a{@g}};g{b{@h}};h{c{@i}};i{d{@j}};j{e{@k}};k{l}", 0)
	wantSize("a name is no level", "{@f};f{@g};g{@h};h{@i};i{@j};j{@k};k{a{b{c{d{e}}}}}", 5)

	// What comes may be too long though the text is not: what comes twice is written once.
	kids := flat(11, 8)
	for i := range kids[:10] {
		kids[i].As = "w" + kids[i].Name[1:]
	}
	wantSize("400 bytes come", "{aaaaaaaa{@f},x:bbbbbbb{@f}};f"+askByHand(kids), 24)
	wantSize("401 bytes come", "{aaaaaaaa{@f},x:bbbbbbbb{@f}};f"+askByHand(kids), 0)
}

func TestP58WithoutPartsOfItsOwn(t *testing.T) {
	r := rand.New(rand.NewSource(41))
	for range 3000 {
		a := anyAsk(r)
		for _, values := range [][]int{nil, {}, {1, 2, 3}, {-1}} {
			got, ok := impl.AskExpand(impl.AskWrite(a), values)
			if !ok || !same(got, a) {
				t.Fatalf("%s: %v, %v", askByHand(a), got, ok)
			}
		}
		if line := impl.AskWrite(a) + ";f{z};g{@f};h!"; len(line) <= 400 {
			got, ok := impl.AskExpand(line, nil)
			if !ok || !same(got, a) {
				t.Fatalf("%s: %v, %v", line, got, ok)
			}
		}
	}
	for _, bytes := range []int{400, 401} {
		a := askOf(t, bytes)
		got, ok := impl.AskExpand(askByHand(a), nil)
		if ok != (bytes <= 400) || ok && !same(got, a) || !ok && !isNothing(got) {
			t.Errorf("%d bytes: %v, %v", bytes, got, ok)
		}
	}
	for _, c := range writtenAsks() {
		wantExpand(t, c.text, nil, c.text)
	}
}

// anyOwn writes an ask as a text with parts of its own, by chance, and keeps the values that stand for numbers.
type anyOwn struct {
	r      *rand.Rand
	parts  []string
	values []int
}

func (o *anyOwn) list(a []impl.Sel) string {
	var items []string
	for i := 0; i < len(a); i++ {
		n := 1 + o.r.Intn(3)
		if len(o.parts) < 7 && o.r.Intn(5) == 0 && i+n <= len(a) {
			at := len(o.parts)
			name := "p" + strconv.Itoa(at)
			o.parts = append(o.parts, "")
			o.parts[at] = name + o.list(a[i:i+n])
			items = append(items, "@"+name)
			i += n - 1
			continue
		}
		items = append(items, o.field(a[i]))
	}
	return "{" + strings.Join(items, ",") + "}"
}

func (o *anyOwn) field(s impl.Sel) string {
	line := s.Name
	if s.As != "" {
		line = s.As + ":" + line
	}
	if s.One && o.r.Intn(2) == 0 {
		line += "($" + strconv.Itoa(len(o.values)) + ")"
		o.values = append(o.values, s.Id)
	} else if s.One {
		line += "(" + strconv.Itoa(s.Id) + ")"
	}
	if len(s.Kids) > 0 {
		line += o.list(s.Kids)
	}
	return line
}

func TestP59NothingLeftToExpand(t *testing.T) {
	r := rand.New(rand.NewSource(42))
	expanded := 0
	for range 5000 {
		a := anyAsk(r)
		o := anyOwn{r: r}
		line := o.list(a)
		r.Shuffle(len(o.parts), func(i, j int) { o.parts[i], o.parts[j] = o.parts[j], o.parts[i] })
		if len(o.parts) > 0 {
			line += ";" + strings.Join(o.parts, ";")
		}
		got, ok := impl.AskExpand(line, o.values)
		if ok && !same(got, a) || !ok && len(line) <= 400 && len(o.parts) <= 6 {
			t.Fatalf("%q with %v: %q, %v, want %q", line, o.values, askByHand(got), ok, askByHand(a))
		}
		wantAsByText(t, line, o.values)
		for range 5 {
			if wantAsByText(t, nearText(r, line, "{}@$;,:()abp012"), o.values) {
				expanded++
			}
		}
	}
	if expanded < 1000 {
		t.Errorf("only %d texts are expanded", expanded)
	}
}

// nearText is a text with some bytes changed.
func nearText(r *rand.Rand, line, bytes string) string {
	b := []byte(line)
	for range 1 + r.Intn(2) {
		i := r.Intn(len(b))
		c := bytes[r.Intn(len(bytes))]
		switch r.Intn(3) {
		case 0:
			b[i] = c
		case 1:
			b = slices.Insert(b, i, c)
		case 2:
			b = slices.Insert(slices.Delete(b, i, i+1), r.Intn(len(b)), c)
		}
	}
	return string(b)
}

func TestExpandAllShortTexts(t *testing.T) {
	for _, c := range []struct {
		ahead, bytes, behind string
		size                 int
	}{
		{"", "{}@;fg", "", 7}, {"{@f", "{}@;fg,", ";f{b}", 6}, {"{@f};f", "{}@;fg,", "", 6}, {"{a(", "$01)}", ")}", 6}, {"{@f,a};f{", "@g;{b}", "};g{c}", 6},
	} {
		line := make([]byte, 0, c.size)
		var all func()
		all = func() {
			wantAsByText(t, c.ahead+string(line)+c.behind, []int{4, 5})
			if len(line) < c.size {
				for i := 0; i < len(c.bytes); i++ {
					line = append(line, c.bytes[i])
					all()
					line = line[:len(line)-1]
				}
			}
		}
		all()
	}
}

func TestP60APartUnderAName(t *testing.T) {
	r := rand.New(rand.NewSource(43))
	many := 0
	for range 5000 {
		a := anyAsk(r)
		if len(a[0].Kids) == 0 {
			continue
		}
		first := a[0]
		first.Kids = sels(sel("kids"))
		rest := askByHand(append(sels(first), a[1:]...))
		for _, name := range []string{"f", "query", "a", "abcdefgh"} {
			line := strings.Replace(rest, "{kids}", "{@"+name+"}", 1) + ";" + name + askByHand(a[0].Kids)
			got, ok := impl.AskExpand(line, nil)
			if ok != (len(line) <= 400) || ok && !same(got, a) || !ok && !isNothing(got) {
				t.Fatalf("%s: %s, %v", line, askByHand(got), ok)
			}
			many++
		}
	}
	if many < 1000 {
		t.Errorf("only %d asks", many)
	}
}

func TestP61AsManyAsWays(t *testing.T) {
	r := rand.New(rand.NewSource(44))
	for range 5000 {
		a := anyAsk(r)
		size, depth := impl.AskSize(a), impl.AskDepth(a)
		if size != len(impl.AskWays(a)) || size != len(waysByHand("", a)) || depth != levelsByHand(a) || depth > size || depth < 1 {
			t.Fatalf("%s: size %d, depth %d", askByHand(a), size, depth)
		}
		if got, ok := impl.AskJoin(a, a); !ok || !same(got, a) {
			t.Fatalf("%s with itself: %v, %v", askByHand(a), got, ok)
		}
	}
	for _, c := range []struct {
		text        string
		size, depth int
	}{
		{"{a}", 1, 1}, {"{a,b}", 2, 1}, {"{a{b}}", 2, 2}, {"{a{b,c{d}},e}", 5, 3}, {"{a,b{c},d{e{f}},g}", 7, 3}, {"{a{b{c{d{e}}}}}", 5, 5},
	} {
		a := ask(t, c.text)
		if impl.AskSize(a) != c.size || impl.AskDepth(a) != c.depth {
			t.Errorf("%s: size %d, depth %d", c.text, impl.AskSize(a), impl.AskDepth(a))
		}
	}
	for _, bad := range [][]impl.Sel{nil, {}, sels(sel("a"), sel("a")), nested(6), flat(25, 8), askOf(t, 401)} {
		if impl.AskSize(bad) != 0 || impl.AskDepth(bad) != 0 {
			t.Errorf("%v is not ok, but has %d, %d", bad, impl.AskSize(bad), impl.AskDepth(bad))
		}
	}
}

func TestP62AllThatAnAskLooksAt(t *testing.T) {
	r := rand.New(rand.NewSource(45))
	for range 5000 {
		p, a := fitAsk(r)
		fields := impl.AskFields(p, a)
		if want := firsts(fieldsByHand(p, "query", a)); len(fields) == 0 || !slices.Equal(fields, want) {
			t.Fatalf("%s of %q: %v, want %v", askByHand(a), byHand(p), fields, want)
		}
		for i := range a {
			less := slices.Delete(slices.Clone(a), i, i+1)
			some := impl.AskFields(p, less)
			if len(some) > len(fields) || len(less) > 0 && len(some) == 0 {
				t.Fatalf("%s of %q: %v, without %s %v", askByHand(a), byHand(p), fields, a[i].Name, some)
			}
			for _, f := range some {
				if !slices.Contains(fields, f) {
					t.Fatalf("%s of %q: %v, without %s %v", askByHand(a), byHand(p), fields, a[i].Name, some)
				}
			}
		}
		broken := breakAsk(r, deep(a))
		fits := isAskByHand(broken) && checkByHand(p, "query", nil, broken).Code == 0
		if (len(impl.AskFields(p, broken)) > 0) != fits {
			t.Fatalf("%s of %q: %v", askByHand(broken), byHand(p), impl.AskFields(p, broken))
		}
	}
}

func TestAskFields(t *testing.T) {
	p, fault := impl.PartRead("part a\ntype query\n  n int\n  us [u]\n  u u\n  h int hidden\n" +
		"type u key id\n  id int!\n  age int hidden\n  old int\n  rank int needs age id\n  sum int needs age old\n  v u\n  h int hidden\n")
	if fault.Code != 0 {
		t.Fatal(fault)
	}
	for _, c := range []struct{ text, fields string }{
		{"{n}", "query.n"}, {"{x:n,y:n}", "query.n"}, {"{us{id},n}", "query.us u.id query.n"}, {"{us{id},u(3){id}}", "query.us u.id query.u"},
		{"{us{rank}}", "query.us u.rank u.age u.id"}, {"{us{id,rank}}", "query.us u.id u.rank u.age"}, {"{us{rank,id},x:us{id},n}", "query.us u.rank u.age u.id query.n"}, {"{us{rank,sum}}", "query.us u.rank u.age u.id u.sum u.old"}, {"{us{sum,rank,old}}", "query.us u.sum u.age u.old u.rank u.id"},
		{"{u{v{v{id},rank},id}}", "query.u u.v u.id u.rank u.age"}, {"{n,u{x:rank,v{sum}}}", "query.n query.u u.rank u.age u.id u.v u.sum u.old"},
		{"{h}", ""}, {"{z}", ""}, {"{u}", ""}, {"{n{id}}", ""}, {"{us(1){id}}", ""}, {"{n,us{id,h}}", ""}, {"{us{age}}", ""},
	} {
		if got := impl.AskFields(p, ask(t, c.text)); strings.Join(got, " ") != c.fields {
			t.Errorf("%s looks at %v, want %s", c.text, got, c.fields)
		}
	}
}
