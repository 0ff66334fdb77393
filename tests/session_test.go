package tests

import (
	"fmt"
	"math/rand"
	"regexp"
	"strings"
	"testing"

	"loop.example/portolan/impl"
)

// exampleTexts are the texts of the document's example.
func exampleTexts(t *testing.T) []string {
	return textsOf(crew(t, eastTold, westTold))
}

// wantSession fails if lines are answered otherwise than told, each answer on a line of its own.
func wantSession(t *testing.T, what string, texts []string, rows []impl.Row, lines []string, want ...string) {
	t.Helper()
	got := impl.PortSession(texts, rows, lines)
	if told := strings.Join(append(want, ""), "\n"); got != told {
		t.Errorf("%s:\n%s, want\n%s", what, got, told)
	}
	if hand := sessionByHand(texts, rows, lines); hand != got {
		t.Errorf("%s: by hand it is\n%s", what, hand)
	}
}

// sessionByHand is an independent account of what a session tells, by what the functions that it names answer.
func sessionByHand(texts []string, rows []impl.Row, lines []string) string {
	parts, code := impl.PortOpen(texts)
	if code != 0 {
		return fmt.Sprintf("closed %d\n", code)
	}
	var stores [][]impl.Row
	for _, p := range parts {
		cut := cutByHand(p, rows)
		if !isStoreByHand(p, cut) {
			return "closed 6\n"
		}
		stores = append(stores, cut)
	}
	out := ""
	figures := map[string][]int{}
	form := regexp.MustCompile(`^(picks|fails) ([0-9]*)$`)
	for _, line := range lines {
		said := "what\n"
		c, isChange := impl.ChangeRead(strings.TrimPrefix(line, "set "))
		if strings.HasPrefix(line, "set ") && isChange {
			var code int
			stores, code = impl.SetParts(parts, stores, c)
			said = fmt.Sprintf("set %d\n", code)
		} else if m := form.FindStringSubmatch(line); m != nil {
			figures[m[1]] = nil
			for _, figure := range m[2] {
				figures[m[1]] = append(figures[m[1]], int(figure-'0'))
			}
			said = ""
		} else if strings.HasPrefix(line, "{") {
			answer, code := impl.PortAnswer(parts, stores, line, figures["picks"], figures["fails"])
			said = answer + "\n"
			if code != 0 {
				said = fmt.Sprintf("refused %d\n", code)
			}
		}
		out += said
	}
	return out
}

func TestPortSessionExample(t *testing.T) {
	wantSession(t, "the example", exampleTexts(t), exampleRows(), []string{
		"{users{name,rank},n1}", "picks 1", "{u:users{id,rank}}", "fails 1", "{users{name,rank},n1}", "fails ", "set user 2 age 40", "{users{rank}}", "{users{zz}}", "set user 3 age 1", "set user 1 id 7", "what",
	},
		`{"data":{"users":[{"name":"ann","rank":35},{"name":"bob","rank":null}],"n1":2}}`,
		`{"data":{"u":[{"id":1,"rank":35},{"id":2,"rank":null}]}}`,
		`{"data":{"users":[{"name":"ann","rank":null},{"name":"bob","rank":null}],"n1":2},"wrong":[{"way":["users","0","rank"],"code":3},{"way":["users","1","rank"],"code":3}]}`,
		"set 0", `{"data":{"users":[{"rank":35},{"rank":47}]}}`, "refused 5", "set 2", "set 3", "what")
}

func TestPortSessionClosed(t *testing.T) {
	fine, rows := exampleTexts(t), exampleRows()
	unfit := exampleRows()
	unfit[1].Cells[1].Value = null()
	for _, c := range []struct {
		what  string
		texts []string
		rows  []impl.Row
		code  int
	}{
		{"a text is no part", []string{fine[0], "x"}, rows, impl.PortPart},
		{"no texts", nil, rows, impl.PortChart},
		{"no chart", fine[1:], rows, impl.PortChart},
		{"not reached", reachTexts, rows, impl.PortReach},
		{"no rows", fine, nil, impl.PortStore},
		{"no row of query", fine, rows[1:], impl.PortStore},
		{"two rows of query", fine, append(exampleRows(), rows[0]), impl.PortStore},
		{"a value that does not fit", fine, unfit, impl.PortStore},
		{"rows not ascending", fine, []impl.Row{rows[0], rows[2], rows[1]}, impl.PortStore},
		{"not reached, and no rows", reachTexts, nil, impl.PortReach},
		{"no part, and no rows", []string{"x"}, nil, impl.PortPart},
	} {
		for _, lines := range [][]string{nil, {"{n0}", "what"}} {
			wantSession(t, c.what, c.texts, c.rows, lines, fmt.Sprintf("closed %d", c.code))
		}
	}
	// Types that no part has, and cells that none knows, do not matter; what is not told is null.
	more := append(exampleRows(), row("zz", 1, "id", number(1)))
	more[0].Cells = append(more[0].Cells[:2], impl.Cell{Name: "zz", Value: text("z")})
	wantSession(t, "more", fine, more, []string{"{n1,n0}"}, `{"data":{"n1":null,"n0":1}}`)
}

// Whether a cut is ok hangs on what the rows have, however many parts a value has, or if it holds itself.
func TestPortSessionManyParts(t *testing.T) {
	fine := exampleTexts(t)
	held := endless()
	for levels := 2; levels <= 200; levels++ {
		v := null()
		for range levels {
			v = list(v, v)
		}
		held = append(held, v)
	}
	for i, v := range held {
		for _, cell := range []struct{ at, of int }{{0, 0}, {0, 1}, {0, 2}, {1, 0}, {1, 1}, {2, 2}, {2, 3}} {
			rows := exampleRows()
			rows[cell.at].Cells[cell.of].Value = v
			if got := impl.PortSession(fine, rows, []string{"{n0}", "what"}); got != "closed 6\n" {
				t.Fatalf("%d, in the cell %v: %.80q", i, cell, got)
			}
		}
		// What no part knows, and what another cell of that name stands ahead of, does not matter.
		rows := exampleRows()
		rows[0].Cells = append(rows[0].Cells, impl.Cell{Name: "zz", Value: v}, impl.Cell{Name: "n0", Value: v})
		rows = append(rows, row("zz", 1, "id", v))
		if got := impl.PortSession(fine, rows, []string{"{n0}", "what"}); got != "{\"data\":{\"n0\":1}}\nwhat\n" {
			t.Fatalf("%d: %.80q", i, got)
		}
	}
	// A list of two nulls fits a field of a List.
	if got := impl.PortSession([]string{"part a\ntype query\n  n [int]\n"}, []impl.Row{row("query", 0, "n", list(null(), null()))}, []string{"{n}"}); got != "{\"data\":{\"n\":[null,null]}}\n" {
		t.Error(got)
	}
}

func TestPortSessionLines(t *testing.T) {
	texts, rows := exampleTexts(t), exampleRows()
	wantSession(t, "no lines", texts, rows, nil)
	if got := impl.PortSession(texts, rows, nil); got != "" {
		t.Errorf("no lines: %q", got)
	}
	for _, line := range []string{"", " ", "what", "set", "set ", "set x", "set user 2 age", "set user 02 age 40", "set  user 2 age 40", "set user 2 age 40 ", "setuser 2 age 40", "SET user 2 age 40", " set user 2 age 40", "picks", "picks x", "picks 1 2", "picks 1,2", "picks -1", "picks  1", "picks 1 ", "picks1", "fails", "fails x", "fails 1x", "fails\t1", "fail 1", " {n0}", "closed 1", "refused 5", "a{n0}", "}", "[", "\n", "pick 1"} {
		wantSession(t, line, texts, rows, []string{line, "{n0}"}, "what", `{"data":{"n0":1}}`)
	}
	for _, c := range []struct {
		line string
		want string
	}{
		{"{", "refused 4"},
		{"{}", "refused 4"},
		{"{n0} ", "refused 4"},
		{"{n0}\n", "refused 4"},
		{"{zz}", "refused 5"},
		{"{users}", "refused 5"},
		{"{n0}", `{"data":{"n0":1}}`},
		{"set user 2 age 40", "set 0"},
		{"set user 2 zz 40", "set 1"},
		{"set zz 2 age 40", "set 1"},
		{"set user 3 age 40", "set 2"},
		{"set user 2 id 2", "set 3"},
		{"set user 2 age true", "set 4"},
		{`set user 2 name "a b"`, "set 0"},
		{"set query 0 users [2,null]", "set 0"},
	} {
		wantSession(t, c.line, texts, rows, []string{c.line}, c.want)
	}
	const ok, lost, none = `{"data":{"n0":1,"n1":2}}`, `{"data":{"n0":1,"n1":null},"wrong":[{"way":["n1"],"code":3}]}`, `{"data":{"n0":null,"n1":null},"wrong":[{"way":["n0"],"code":3},{"way":["n1"],"code":3}]}`
	wantSession(t, "fails stay till others come", texts, rows, []string{"{n0,n1}", "fails 1", "{n0,n1}", "{n0,n1}", "fails x", "{n0,n1}", "fails 0123456789", "{n0,n1}", "fails 9", "{n0,n1}", "fails 1", "fails ", "{n0,n1}"}, ok, lost, lost, "what", lost, none, ok, ok)
	wantSession(t, "picks", texts, rows, []string{"picks 0123456789", "{n0,n1}", "picks ", "{n0,n1}", "picks 1", "fails 1", "{n0,n1}"}, ok, ok, lost)
	wantSession(t, "changes stay", texts, rows, []string{"set query 0 n1 7", "{n1}", "set query 0 n1 true", "{n1}", "set query 0 n1 null", "{n1}"}, "set 0", `{"data":{"n1":7}}`, "set 4", `{"data":{"n1":7}}`, "set 0", `{"data":{"n1":null}}`)
}

// P47: PortSession has at most one line for each line, or one.
func TestP47(t *testing.T) {
	r := rand.New(rand.NewSource(110))
	closed, told := 0, 0
	for range 1500 {
		v := anySailing(r)
		texts, rows := textsOf(v.parts), v.rows
		switch r.Intn(8) {
		case 0:
			rows = breakStore(r, deep(rows))
		case 1:
			texts = textsOf(nearCrew(r, v.parts))
		}
		var lines []string
		for range r.Intn(10) {
			lines = append(lines, anyLine(r, v))
		}
		got := impl.PortSession(texts, rows, lines)
		if want := sessionByHand(texts, rows, lines); got != want {
			t.Fatalf("%v%q:\n%s, want\n%s", v, lines, got, want)
		}
		count := strings.Count(got, "\n")
		if got != "" && !strings.HasSuffix(got, "\n") {
			t.Fatalf("%q", got)
		}
		if strings.HasPrefix(got, "closed") {
			closed++
			if count != 1 {
				t.Fatalf("%q", got)
			}
		} else if told += count; count > len(lines) {
			t.Fatalf("%d lines for %q", count, lines)
		}
	}
	if closed < 50 || told < 2000 {
		t.Errorf("%d closed, %d lines", closed, told)
	}
}

// anyLine is a line of a session by chance.
func anyLine(r *rand.Rand, v sailing) string {
	switch r.Intn(8) {
	case 0:
		return "picks " + []string{"", "1", "10", "987654321", "x"}[r.Intn(5)]
	case 1:
		return "fails " + []string{"", "", "1", "02", "0123456789", "1 2"}[r.Intn(6)]
	case 2, 3:
		return "set " + impl.ChangeWrite(anyChange(r, v.c.All, v.rows))
	case 4:
		return []string{"what", "", "set", "{", "{zz}", "picks", "fails"}[r.Intn(7)]
	}
	if a := fitChart(r, v.c); len(a) > 0 {
		return askByHand(a)
	}
	return askByHand(v.a)
}
