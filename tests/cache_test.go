package tests

import (
	"math/rand"
	"slices"
	"testing"

	"loop.example/portolan/impl"
)

func entry(text, answer string, uses ...string) impl.Entry {
	return impl.Entry{Text: text, Answer: answer, Uses: uses}
}

// cacheByHand is an independent account of what CacheAsk answers.
func cacheByHand(c []impl.Entry, parts []impl.Part, stores [][]impl.Row, line string) ([]impl.Entry, string, bool) {
	for _, e := range c {
		if e.Text == line {
			return c, e.Answer, true
		}
	}
	answer, code := impl.PortAnswer(parts, stores, line, nil, nil)
	if code != 0 {
		return c, "", false
	}
	chart, _ := impl.ChartMake(parts)
	a, _ := impl.AskRead(line)
	out := append(deep(c), impl.Entry{Text: line, Answer: answer, Uses: firsts(fieldsByHand(chart.All, "query", a))})
	return out[max(0, len(out)-impl.CacheMax):], answer, false
}

// wantCacheAsk fails if an ask is answered or kept otherwise than by hand, and tells what is kept then.
func wantCacheAsk(t *testing.T, c []impl.Entry, parts []impl.Part, stores [][]impl.Row, line string) ([]impl.Entry, string, bool) {
	t.Helper()
	got, answer, hit := impl.CacheAsk(c, parts, stores, line)
	want, expected, kept := cacheByHand(c, parts, stores, line)
	if !same(got, want) || answer != expected || hit != kept {
		t.Fatalf("%v, %s: %v, %q, %v, want %v, %q, %v", c, line, got, answer, hit, want, expected, kept)
	}
	return got, answer, hit
}

func TestCacheAsk(t *testing.T) {
	v := sailingOf(t, exampleRows(), "{n0}", eastTold, westTold)
	n0 := entry("{n0}", `{"data":{"n0":1}}`, "query.n0")
	n1 := entry("{n1}", `{"data":{"n1":2}}`, "query.n1")
	other := func(i int) impl.Entry { return entry("x"+string(rune('0'+i)), "y", "z") }
	for _, c := range []struct {
		what   string
		c      []impl.Entry
		line   string
		answer string
		hit    bool
		want   []impl.Entry
	}{
		{"none is kept", nil, "{n0}", n0.Answer, false, []impl.Entry{n0}},
		{"another is kept", []impl.Entry{n0}, "{n1}", n1.Answer, false, []impl.Entry{n0, n1}},
		{"it is kept", []impl.Entry{n0, n1}, "{n0}", n0.Answer, true, []impl.Entry{n0, n1}},
		{"it is refused", []impl.Entry{n0}, "{zz}", "", false, []impl.Entry{n0}},
		{"no ask", []impl.Entry{n0}, "", "", false, []impl.Entry{n0}},
		{"with what it needs", nil, "{users{rank}}", `{"data":{"users":[{"rank":35},{"rank":null}]}}`, false, []impl.Entry{entry("{users{rank}}", `{"data":{"users":[{"rank":35},{"rank":null}]}}`, "query.users", "user.rank", "user.age")}},
		{"just room", []impl.Entry{other(1), other(2), other(3)}, "{n0}", n0.Answer, false, []impl.Entry{other(1), other(2), other(3), n0}},
		{"one too many", []impl.Entry{other(1), other(2), other(3), other(4)}, "{n0}", n0.Answer, false, []impl.Entry{other(2), other(3), other(4), n0}},
		{"kept, one too many not", []impl.Entry{other(1), n0, other(3), other(4)}, "{n0}", n0.Answer, true, []impl.Entry{other(1), n0, other(3), other(4)}},
		{"refused, with no room", []impl.Entry{other(1), other(2), other(3), other(4)}, "{zz}", "", false, []impl.Entry{other(1), other(2), other(3), other(4)}},
		// Made by hand: too many, wrong ones, one text twice, texts that are none.
		{"many too many", []impl.Entry{other(1), other(2), other(3), other(4), other(5), other(6)}, "{n0}", n0.Answer, false, []impl.Entry{other(4), other(5), other(6), n0}},
		{"too many, and it is kept", []impl.Entry{other(1), other(2), other(3), other(4), other(5), n0}, "{n0}", n0.Answer, true, []impl.Entry{other(1), other(2), other(3), other(4), other(5), n0}},
		{"too many, and it is refused", []impl.Entry{other(1), other(2), other(3), other(4), other(5)}, "{zz}", "", false, []impl.Entry{other(1), other(2), other(3), other(4), other(5)}},
		{"a wrong one", []impl.Entry{entry("{n0}", "wrong")}, "{n0}", "wrong", true, []impl.Entry{entry("{n0}", "wrong")}},
		{"the first of two", []impl.Entry{other(1), entry("{n0}", "one", "a"), entry("{n0}", "two", "b")}, "{n0}", "one", true, []impl.Entry{other(1), entry("{n0}", "one", "a"), entry("{n0}", "two", "b")}},
		{"one that is no ask", []impl.Entry{other(1)}, "x1", "y", true, []impl.Entry{other(1)}},
		{"the empty text", []impl.Entry{entry("", "")}, "", "", true, []impl.Entry{entry("", "")}},
		{"two of one text go, one by one", []impl.Entry{other(1), other(1), other(1), other(1), other(2)}, "{n0}", n0.Answer, false, []impl.Entry{other(1), other(1), other(2), n0}},
	} {
		got, answer, hit := wantCacheAsk(t, c.c, v.parts, v.stores, c.line)
		if !same(got, c.want) || answer != c.answer || hit != c.hit {
			t.Errorf("%s: %v, %q, %v", c.what, got, answer, hit)
		}
		// What is kept is answered, whatever the parts are; nothing else is, if they are none.
		got, answer, hit = wantCacheAsk(t, c.c, nil, nil, c.line)
		if hit != c.hit || hit && answer != c.answer || !hit && answer != "" || !same(got, c.c) {
			t.Errorf("%s, no parts: %v, %q, %v", c.what, got, answer, hit)
		}
	}
}

func TestCacheSet(t *testing.T) {
	v := sailingOf(t, exampleRows(), "{n0}", eastTold, westTold)
	c := []impl.Entry{entry("a", "1", "user.age", "user.rank"), entry("b", "2"), entry("c", "3", "query.n0"), entry("d", "4", "user.rank", "user.age"), entry("e", "5", "user.ag", "xuser.age", "user.age2"), entry("f", "6", "user.age", "user.age")}
	for _, x := range []struct {
		h    impl.Change
		code int
		left string
	}{
		{change("user", 1, "age", number(3)), 0, "bce"},
		{change("user", 1, "rank", number(3)), 0, "bcef"},
		{change("query", 0, "n0", null()), 0, "abdef"},
		{change("query", 0, "n1", null()), 0, "abcdef"},
		{change("user", 9, "age", number(3)), impl.SetNoRow, "abcdef"},
		{change("user", 1, "age", text("x")), impl.SetUnfit, "abcdef"},
		{change("user", 1, "id", number(1)), impl.SetBadKey, "abcdef"},
		{change("user", 1, "zz", number(1)), impl.SetUnknown, "abcdef"},
		// With what was there set again it goes, too.
		{change("user", 1, "age", number(30)), 0, "bce"},
	} {
		got, stores, code := impl.CacheSet(c, v.parts, v.stores, x.h)
		want, expected := impl.SetParts(v.parts, v.stores, x.h)
		left := ""
		for _, e := range got {
			left += e.Text
		}
		if code != x.code || code != expected || !same(stores, want) || left != x.left {
			t.Errorf("%v: %v, %v, %d", x.h, got, stores, code)
		}
		for _, e := range got {
			if at := slices.IndexFunc(c, func(o impl.Entry) bool { return o.Text == e.Text }); !same(e, c[at]) {
				t.Errorf("%v is now %v", c[at], e)
			}
		}
		got, stores, code = impl.CacheSet(c, v.parts, nil, x.h)
		if code != impl.SetUnknown || !isNothing(stores) || !same(got, c) {
			t.Errorf("no stores: %v, %v, %d", got, stores, code)
		}
		if got, _, _ := impl.CacheSet(nil, v.parts, v.stores, x.h); len(got) != 0 {
			t.Errorf("none kept: %v", got)
		}
	}
}

func TestCacheRight(t *testing.T) {
	v := sailingOf(t, exampleRows(), "{n0}", eastTold, westTold)
	n0 := entry("{n0}", `{"data":{"n0":1}}`)
	for _, c := range []struct {
		what string
		c    []impl.Entry
		ok   bool
	}{
		{"none", nil, true},
		{"one", []impl.Entry{n0}, true},
		{"as many as can be", []impl.Entry{n0, n0, n0, n0}, true},
		{"one more", []impl.Entry{n0, n0, n0, n0, n0}, false},
		{"a space more", []impl.Entry{n0, entry("{n0}", n0.Answer+" ")}, false},
		{"another answer", []impl.Entry{entry("{n1}", n0.Answer)}, false},
		{"no answer", []impl.Entry{entry("{n0}", "")}, false},
		{"refused, and no answer", []impl.Entry{entry("{zz}", "")}, false},
		{"no ask, and no answer", []impl.Entry{entry("", "")}, false},
		{"other uses", []impl.Entry{entry("{n0}", n0.Answer, "zz", "zz")}, true},
		{"the last is wrong", []impl.Entry{n0, n0, n0, entry("{n1}", "")}, false},
	} {
		if got := impl.CacheRight(c.c, v.parts, v.stores); got != c.ok {
			t.Errorf("%s: %v", c.what, got)
		}
		if got := impl.CacheRight(c.c, v.parts, nil); got != (len(c.c) == 0) {
			t.Errorf("%s, no stores: %v", c.what, got)
		}
	}
}

// P64: from none on, by CacheAsk and CacheSet, each answer of CacheAsk is PortAnswer's, and CacheRight holds. P65: an ask that was answered is kept, with that answer; what was kept already changes nothing. P66: an ask that was not kept, and is answered, is the last behind CacheAsk; all others stay, but the first, if there were CacheMax. P67: CacheSet keeps all with a code, and else just what has not the field among its Uses.
func TestP64P65P66P67(t *testing.T) {
	r := rand.New(rand.NewSource(111))
	hits, gone, full := 0, 0, 0
	for range 160 {
		v := anySailing(r)
		if ok, _ := impl.ReachOk(v.parts); !ok {
			continue
		}
		var lines []string
		for range 5 {
			lines = append(lines, askByHand(fitChart(r, v.c)))
		}
		lines = append(lines, "{zz}", "x")
		var c []impl.Entry
		stores := v.stores
		for range 30 {
			if r.Intn(4) == 0 {
				h := anyChange(r, v.c.All, v.rows)
				now, after, code := impl.CacheSet(c, v.parts, stores, h)
				want := slices.DeleteFunc(deep(c), func(e impl.Entry) bool { return code == 0 && slices.Contains(e.Uses, h.Type+"."+h.Field) })
				if !same(now, want) {
					t.Fatalf("%v of %v: %v", h, c, now)
				}
				gone += len(c) - len(now)
				c, stores = now, after
			} else {
				line := lines[r.Intn(len(lines))]
				now, answer, hit := wantCacheAsk(t, c, v.parts, stores, line)
				want, code := impl.PortAnswer(v.parts, stores, line, nil, nil)
				at := slices.IndexFunc(now, func(e impl.Entry) bool { return e.Text == line })
				if answer != want || (code == 0) != (at >= 0) || at >= 0 && now[at].Answer != answer || hit && !same(now, c) {
					t.Fatalf("%s: %q, %v, want %q, kept %v", line, answer, hit, want, now)
				}
				if hit {
					hits++
				} else if code == 0 {
					ahead := c
					if len(c) == impl.CacheMax {
						ahead = c[1:]
						full++
					}
					if at != len(now)-1 || !same(now[:at], ahead) {
						t.Fatalf("%s: %v, before %v", line, now, c)
					}
				}
				c = now
			}
			if !impl.CacheRight(c, v.parts, stores) {
				t.Fatalf("not right: %v", c)
			}
		}
	}
	if hits < 500 || gone < 200 || full < 50 {
		t.Errorf("%d kept already, %d forgotten, %d when there was no room", hits, gone, full)
	}
}

// P68: CacheRight holds just if there are at most CacheMax, and each answer is PortAnswer's.
func TestP68(t *testing.T) {
	r := rand.New(rand.NewSource(112))
	rights := 0
	for range 1500 {
		v := anySailing(r)
		var c []impl.Entry
		for range r.Intn(7) {
			line := askByHand(fitChart(r, v.c))
			answer, _ := impl.PortAnswer(v.parts, v.stores, line, nil, nil)
			c = append(c, entry(line, answer))
		}
		if r.Intn(3) == 0 && len(c) > 0 {
			e := &c[r.Intn(len(c))]
			switch r.Intn(3) {
			case 0:
				e.Answer += " "
			case 1:
				e.Text = "{zz}"
			case 2:
				e.Answer = ""
			}
		}
		want := len(c) <= 4
		for _, e := range c {
			answer, code := impl.PortAnswer(v.parts, v.stores, e.Text, nil, nil)
			want = want && code == 0 && answer == e.Answer
		}
		if got := impl.CacheRight(c, v.parts, v.stores); got != want {
			t.Fatalf("%v: %v", c, got)
		}
		if want {
			rights++
		}
	}
	if rights < 300 {
		t.Errorf("only %d right", rights)
	}
}
