package tests

import (
	"math/rand"
	"slices"
	"strings"
	"testing"

	"loop.example/portolan/impl"
)

// textsOf are the texts of parts.
func textsOf(parts []impl.Part) []string {
	var out []string
	for _, p := range parts {
		out = append(out, byHand(p))
	}
	return out
}

// Texts of parts by which what a code says applies.
var (
	fineTexts  = []string{"part a\ntype query\n  n int\n  u u\n  h int hidden\ntype u\n  x int\n", "part b\ntype query\n  m int\n"}
	chartTexts = []string{"part a\ntype query\n  n int far\n"}
	reachTexts = []string{"part a\ntype query\n  n u\ntype u\n  x int\n", "part b\ntype query\n  m u\ntype u\n  y int\n"}
)

func TestPortOpen(t *testing.T) {
	for _, c := range []struct {
		what  string
		texts []string
		code  int
	}{
		{"fine", fineTexts, 0},
		{"one", fineTexts[:1], 0},
		{"none", nil, impl.PortChart},
		{"no part", []string{"x"}, impl.PortPart},
		{"an empty text", []string{""}, impl.PortPart},
		{"the last is no part", append(slices.Clone(fineTexts), "part c"), impl.PortPart},
		{"a part that is not ok", []string{"part a\ntype query\n  n zz\n"}, impl.PortPart},
		{"no chart", chartTexts, impl.PortChart},
		{"twice", []string{fineTexts[1], fineTexts[1]}, impl.PortChart},
		{"too many", []string{"part a\ntype query\n  a int\n", "part b\ntype query\n  b int\n", "part c\ntype query\n  c int\n", "part d\ntype query\n  d int\n", "part e\ntype query\n  e int\n"}, impl.PortChart},
		{"not reached", reachTexts, impl.PortReach},
		// Of two the first.
		{"no part, no chart", append(slices.Clone(chartTexts), "x"), impl.PortPart},
		{"no part, too many", []string{"x", "x", "x", "x", "x"}, impl.PortPart},
		{"no part, not reached", append(slices.Clone(reachTexts), "x"), impl.PortPart},
		{"no chart, not reached", append(slices.Clone(reachTexts), reachTexts[0]), impl.PortChart},
	} {
		parts, code := impl.PortOpen(c.texts)
		if code != c.code || code != 0 && !isNothing(parts) {
			t.Errorf("%s: %v, %d, want %d", c.what, parts, code, c.code)
		}
		if code == 0 && !slices.Equal(textsOf(parts), c.texts) {
			t.Errorf("%s: %v", c.what, parts)
		}
	}
}

// unchecked are the parts of texts, whether they make a chart or not.
func unchecked(t *testing.T, texts []string) []impl.Part {
	t.Helper()
	var parts []impl.Part
	for _, one := range texts {
		parts = append(parts, part(t, one))
	}
	return parts
}

func TestPortCodes(t *testing.T) {
	fine := unchecked(t, fineTexts)
	rows := []impl.Row{row("query", 0, "n,u,h,m", number(1), number(2), number(3), number(4)), row("u", 2, "x", number(5))}
	stores := [][]impl.Row{impl.StoreCut(fine[0], rows), impl.StoreCut(fine[1], rows)}
	broken := deep(fine)
	broken[1].Name = "int"
	const line, want = "{u{x},m}", `{"data":{"u":{"x":5},"m":4}}`
	for _, c := range []struct {
		what   string
		parts  []impl.Part
		line   string
		stored bool
		code   int
	}{
		{"fine", fine, line, true, 0},
		{"a part that is not ok", broken, line, true, impl.PortChart},
		{"no parts", nil, line, true, impl.PortChart},
		{"no chart", unchecked(t, chartTexts), line, true, impl.PortChart},
		{"not reached", unchecked(t, reachTexts), "{n{x}}", true, impl.PortReach},
		{"no ask", fine, "n", true, impl.PortText},
		{"an empty ask", fine, "", true, impl.PortText},
		{"an ask that is not written so", fine, "{u{x},m} ", true, impl.PortText},
		{"an ask that is too long", fine, "{" + strings.Repeat("a", 400) + "}", true, impl.PortText},
		{"an ask with a part of its own", fine, "{@a};a{m}", true, impl.PortText},
		{"unknown", fine, "{zz}", true, impl.PortAsk},
		{"hidden", fine, "{m,h}", true, impl.PortAsk},
		{"bare", fine, "{u}", true, impl.PortAsk},
		{"no stores", fine, line, false, impl.PortStore},
		// Of two the first.
		{"no chart, no ask", unchecked(t, chartTexts), "n", true, impl.PortChart},
		{"no chart, unknown", unchecked(t, chartTexts), "{zz}", true, impl.PortChart},
		{"no chart, no stores", unchecked(t, chartTexts), "{n}", false, impl.PortChart},
		{"not reached, no ask", unchecked(t, reachTexts), "n", true, impl.PortReach},
		{"not reached, unknown", unchecked(t, reachTexts), "{zz}", true, impl.PortReach},
		{"not reached, no stores", unchecked(t, reachTexts), "{n{x}}", false, impl.PortReach},
		{"no ask, no stores", fine, "n", false, impl.PortText},
		{"unknown, no stores", fine, "{zz}", false, impl.PortAsk},
	} {
		s, all := stores, rows
		if !c.stored {
			s, all = nil, nil
		}
		wanted := want
		if c.code != 0 {
			wanted = ""
		}
		if got, code := impl.PortAnswer(c.parts, s, c.line, []int{1}, nil); code != c.code || got != wanted {
			t.Errorf("%s: %q, %d, want %d", c.what, got, code, c.code)
		}
		if got, code := impl.PortWhole(c.parts, all, c.line); code != c.code || got != wanted {
			t.Errorf("%s, of one store: %q, %d, want %d", c.what, got, code, c.code)
		}
	}
	for _, s := range [][][]impl.Row{stores[:1], append(slices.Clone(stores), nil), {stores[1], stores[0]}, {stores[0], nil}} {
		if got, code := impl.PortAnswer(fine, s, "{n}", nil, nil); code != impl.PortStore || got != "" {
			t.Errorf("%v: %q, %d", s, got, code)
		}
	}
	// Rows of a part are no rows of all.
	if got, code := impl.PortWhole(fine, stores[0], "{n}"); code != impl.PortStore || got != "" {
		t.Errorf("%q, %d", got, code)
	}
	if got, code := impl.PortAnswer(fine, stores, line, nil, []int{1}); code != 0 || got != `{"data":{"u":{"x":5},"m":null},"wrong":[{"way":["m"],"code":3}]}` {
		t.Errorf("fails: %q, %d", got, code)
	}
}

// portByHand is the first code that applies, by what the functions that it names say.
func portByHand(parts []impl.Part, line string, stored func(c impl.Chart, a []impl.Sel) bool) int {
	c, fault := impl.ChartMake(parts)
	reached, _ := impl.ReachOk(parts)
	a, read := impl.AskRead(line)
	wrong := impl.AskCheck(c.All, a)
	for i, applies := range []bool{fault.Code != 0, !reached, !read, wrong.Code != 0, !stored(c, a)} {
		if applies {
			return i + impl.PortChart
		}
	}
	return 0
}

// P44: PortAnswer without fails is PortWhole, by any picks. P45: PortAnswer is empty just with a code, the first that applies.
func TestP44P45(t *testing.T) {
	r := rand.New(rand.NewSource(90))
	codes := map[int]int{}
	for range 3000 {
		v := anySailing(r)
		line, parts := askByHand(v.a), v.parts
		whole, code := impl.PortWhole(parts, v.rows, line)
		for range 2 {
			if got, other := impl.PortAnswer(parts, v.stores, line, somePicks(r), nil); got != whole || code != other {
				t.Fatalf("%v: %q, %d, want %q, %d", v, got, other, whole, code)
			}
		}
		for range r.Intn(3) {
			switch r.Intn(8) {
			case 0, 1:
				parts = nearCrew(r, parts)
			case 2, 3:
				line = askByHand(breakAsk(r, deep(v.a)))
			case 4:
				line = line[:r.Intn(len(line)+1)]
			case 5:
				v.stores = deep(v.stores)
				for at := range v.stores {
					v.stores[at] = breakStore(r, v.stores[at])
				}
			case 6:
				v.stores = v.stores[:r.Intn(len(v.stores)+1)]
			case 7:
				v.rows = breakStore(r, deep(v.rows))
			}
		}
		fails := somePlaces(r, len(v.steps))
		got, code := impl.PortAnswer(parts, v.stores, line, nil, fails)
		want := portByHand(parts, line, func(_ impl.Chart, a []impl.Sel) bool {
			_, ok := impl.SailAll(parts, v.stores, a, nil, fails)
			return ok
		})
		if code != want || (got == "") != (code != 0) {
			t.Fatalf("%q: %q, %d, want %d", line, got, code, want)
		}
		codes[code]++
		if code == 0 {
			a, _ := impl.AskRead(line)
			if answer, _ := impl.SailAll(parts, v.stores, a, nil, fails); got != impl.AnswerText(answer) {
				t.Fatalf("%q: %q", line, got)
			}
		}
		got, code = impl.PortWhole(parts, v.rows, line)
		want = portByHand(parts, line, func(c impl.Chart, _ []impl.Sel) bool { return impl.StoreOk(c.All, v.rows) })
		if code != want || (got == "") != (code != 0) {
			t.Fatalf("%q: whole %q, %d, want %d", line, got, code, want)
		}
	}
	for code := range impl.PortStore + 1 {
		if code != impl.PortPart && codes[code] < 20 {
			t.Errorf("the code %d only %d times", code, codes[code])
		}
	}
}

// P46: parts that PortOpen lets in are those of the texts, and ReachOk holds of them.
func TestP46(t *testing.T) {
	r := rand.New(rand.NewSource(91))
	codes := map[int]int{}
	for range 4000 {
		parts := anyCrew(r)
		if r.Intn(2) == 0 {
			parts = nearCrew(r, parts)
		}
		texts := textsOf(parts)
		if r.Intn(10) == 0 {
			at := r.Intn(len(texts))
			texts[at] = texts[at][:r.Intn(len(texts[at]))]
		}
		got, code := impl.PortOpen(texts)
		codes[code]++
		ok, _ := impl.ReachOk(got)
		if code == 0 && (!slices.Equal(textsOf(got), texts) || !ok) || code != 0 && !isNothing(got) {
			t.Fatalf("%q: %v, %d", texts, got, code)
		}
		want := 0
		for i, one := range texts {
			p, fault := impl.PartRead(one)
			parts[i] = p
			if fault.Code != 0 {
				want = impl.PortPart
			}
		}
		if want == 0 {
			_, fault := chartByHand(parts)
			_, lost := reachByHand(parts)
			if fault.Code != 0 {
				want = impl.PortChart
			} else if lost != "" {
				want = impl.PortReach
			}
		}
		if code != want {
			t.Fatalf("%q: %d, want %d", texts, code, want)
		}
	}
	for code := range 4 {
		if codes[code] < 100 {
			t.Errorf("the code %d only %d times", code, codes[code])
		}
	}
}

// P57: an ask for a Hidden field of `query` is refused by PortAsk.
func TestP57(t *testing.T) {
	r := rand.New(rand.NewSource(92))
	refused := 0
	for range 3000 {
		v := anySailing(r)
		parts := deep(v.parts)
		// Whichever part hides it, it may not be asked for.
		name := v.a[r.Intn(len(v.a))].Name
		for i := range parts {
			for j := range parts[i].Types[0].Fields {
				if f := &parts[i].Types[0].Fields[j]; f.Name == name {
					f.Hidden = true
				}
			}
		}
		if ok, _ := impl.ReachOk(parts); !ok {
			continue
		}
		refused++
		if got, code := impl.PortAnswer(parts, v.stores, askByHand(v.a), nil, nil); got != "" || code != impl.PortAsk {
			t.Fatalf("%s is hidden, but %v\nis answered: %q, %d", name, v, got, code)
		}
		if got, code := impl.PortWhole(parts, v.rows, askByHand(v.a)); got != "" || code != impl.PortAsk {
			t.Fatalf("%s is hidden, but answered: %q, %d", name, got, code)
		}
	}
	if refused < 500 {
		t.Errorf("only %d refused", refused)
	}
}
