package path_test

import (
	"regexp"
	"slices"
	"strings"
	"testing"

	"consulate/api"
	"consulate/number"
	"consulate/path"
)

func wantText(t *testing.T, p path.Path, s string) {
	t.Helper()
	if got := p.Text(); got != s {
		t.Errorf("Text of %.200v: %q, want %q", p, got, s)
	}
}

func wantParse(t *testing.T, s string, p path.Path, e api.Errno) {
	t.Helper()
	gotP, gotE := path.Parse(s)
	if !same(gotP, p) || gotE != e {
		t.Errorf("Parse(%q): %.200v, %d, want %.200v, %d", s, gotP, gotE, p, e)
	}
}

func TestText(t *testing.T) {
	for _, c := range []struct {
		p path.Path
		s string
	}{
		{nil, "-"},
		{path.Path{}, "-"},
		{path.Path{seg(2, 10, 20), seg(1, 30, 40)}, "10 20 {30,40}"},
		{path.Path{seg(3, 65001, 65002), seg(2, 10)}, "(65001 65002) 10"},
		{path.Path{seg(2, 1), seg(2, 2)}, "1 | 2"},
		{path.Path{seg(4, 7)}, "[7]"},
		{path.Path{seg(2, 0)}, "0"},
		{path.Path{seg(2, 4294967295)}, "4294967295"},
		{path.Path{seg(2, 65546)}, "65546"},
		{path.Path{seg(1, 3, 2, 2)}, "{3,2,2}"},
		{path.Path{seg(4, 3, 2, 2)}, "[3,2,2]"},
		{path.Path{seg(2, 3, 2, 2)}, "3 2 2"},
		{path.Path{seg(3, 3, 2, 2)}, "(3 2 2)"},
		{path.Path{seg(2, 1, 2), seg(2, 3, 4), seg(2, 5)}, "1 2 | 3 4 | 5"},
		{path.Path{seg(1, 1), seg(1, 2)}, "{1} {2}"},
		{path.Path{seg(3, 1), seg(3, 2)}, "(1) (2)"},
		{path.Path{seg(4, 1), seg(4, 2)}, "[1] [2]"},
		{path.Path{seg(2, 1), seg(1, 2), seg(2, 3), seg(3, 4), seg(2, 5), seg(4, 6), seg(2, 7)}, "1 {2} 3 (4) 5 [6] 7"},
		{path.Path{seg(4, 1), seg(3, 2), seg(1, 3), seg(4, 4, 5), seg(1, 6, 7), seg(3, 8, 9)}, "[1] (2) {3} [4,5] {6,7} (8 9)"},
	} {
		wantText(t, c.p, c.s)
		wantParse(t, c.s, c.p, api.OK)
	}
}

// TestTextOfWhatMayNotBe: it has none.
func TestTextOfWhatMayNotBe(t *testing.T) {
	for _, p := range []path.Path{
		{{}}, {seg(2)}, {seg(0, 1)}, {seg(5, 1)}, {seg(255, 1)}, {seg(2, row(256)...)}, {seg(2, 1), seg(1)}, {seg(5, 1), seg(2, 1)}, many(33),
	} {
		wantText(t, p, "")
	}
}

// join is n texts with one between each.
func join(n int, s, between string) string {
	return strings.Join(slices.Repeat([]string{s}, n), between)
}

func TestParseFull(t *testing.T) {
	for n := 1; n < 70; n++ {
		for _, c := range []struct {
			kind       byte
			s, between string
		}{
			{2, "7", " | "}, {1, "{7}", " "}, {3, "(7)", " "}, {4, "[7]", " "},
		} {
			if n <= 32 {
				wantParse(t, join(n, c.s, c.between), slices.Repeat(path.Of(c.kind, 7), n), api.OK)
			} else {
				wantParse(t, join(n, c.s, c.between), nil, api.ErrFull)
			}
		}
	}
	for n := 1; n < 600; n++ {
		for _, c := range []struct {
			kind               byte
			open, between, end string
		}{
			{2, "", " ", ""}, {1, "{", ",", "}"}, {3, "(", " ", ")"}, {4, "[", ",", "]"},
		} {
			s := c.open + join(n, "7", c.between) + c.end
			p := path.Of(c.kind, slices.Repeat([]api.AS{7}, n)...)
			if n > 255 {
				p = nil
				wantParse(t, s, nil, api.ErrFull)
				wantParse(t, "1 (2) "+s, nil, api.ErrFull)
				wantParse(t, s+" {2}", nil, api.ErrFull)
			} else {
				wantParse(t, s, p, api.OK)
				wantParse(t, "{1} "+s+" [2]", slices.Concat(path.Of(1, 1), p, path.Of(4, 2)), api.OK)
			}
		}
	}
}

// TestParseForm: of each of these no number is to blame.
func TestParseForm(t *testing.T) {
	for _, s := range []string{
		"", " ", "  ", "|", " | ", ",", "{}", "()", "[]", "{ }", "( )", "[ ]", "{,}", "[,]", "{", "}", "(", ")", "[", "]",
		" 1", "1 ", "1  2", "1 2 ", " 1 2", "1|2", "1| 2", "1 |2", "1 |  2", "1  | 2", "1 | ", " | 1", "1 |", "| 1", "1 | | 2", "1 || 2", "1 | 2 | ",
		"1,2", "1, 2", "1 ,2", ",1", "1,",
		"{1", "1}", "{1 2}", "{1, 2}", "{1 ,2}", "{ 1}", "{1 }", "{1,}", "{,1}", "{1,,2}", "{1)", "{1]", "(1}", "[1}", "{{1}}", "{1}}", "{{1}",
		"(1", "1)", "(1,2)", "( 1)", "(1 )", "(1  2)", "(1]", "[1)", "((1))", "(1))", "((1)", "(1 | 2)", "(1|2)",
		"[1", "1]", "[1 2]", "[1, 2]", "[ 1]", "[1 ]", "[1,]", "[,1]", "[1,,2]", "[[1]]",
		"{1}2", "1{2}", "{1}{2}", "(1)2", "1(2)", "(1)(2)", "[1]2", "1[2]", "[1][2]",
		"{1}  {2}", "{1} ", " {1}", "{1} | 2", "1 | {2}", "{1} | {2}", "(1) | 2", "1 | (2)", "(1) | (2)", "[1] | 2", "1 | [2]",
		"{1,(2)}", "(1 {2})", "({1})", "[{1}]", "1 {2", "1 2} 3", "1 (2", "1 2) 3", "1 {} 2", "1 () 2", "1 [] 2", "1 { 2", "1 } 2",
		"- 1 ", " -", "- ", "-|", "-{1}", "{-", "1 -{", "1 | -|",
	} {
		wantParse(t, s, nil, api.ErrForm)
	}
}

// TestParseNumbers: the first number that has an error, whichever, tells it.
func TestParseNumbers(t *testing.T) {
	const over, no = "4294967296", "01"
	wantParse(t, "1.10", path.Of(2, 65546), api.OK)
	wantParse(t, "{1.10,0.1}", path.Of(1, 65546, 1), api.OK)
	wantParse(t, "65535.65535 (0.0)", path.Path{seg(2, 4294967295), seg(3, 0)}, api.OK)
	for _, s := range []string{over, "65536.1", "1.65536", "9999999999"} {
		for _, at := range []string{"#", "1 #", "# 1", "{#}", "{1,#}", "(#)", "(1 #)", "[#]", "[#,1]", "1 | #", "# | 1", "{1} #", "1 {#}", "# -", "# 01", "{#,x}", "(#) x", "# | -", "# 1 99999999999"} {
			wantParse(t, strings.ReplaceAll(at, "#", s), nil, api.ErrRange)
		}
	}
	for _, s := range []string{no, "x", "-", "-1", "+1", "1.", ".1", "1.1.1", "99999999999", "0x1", "1_0", "\t", "1\t2", "\n1", "\x00", "\xff", "é", "１", "1;2", "<1>", "--", "1-2"} {
		for _, at := range []string{"1 #", "# 1", "{#}", "{1,#}", "(#)", "(1 #)", "[#]", "[#,1]", "1 | #", "# | 1", "{1} #", "1 {#}", "# " + over, "{#," + over + "}", "(#) " + over} {
			wantParse(t, strings.ReplaceAll(at, "#", s), nil, api.ErrForm)
		}
		if s != "-" {
			wantParse(t, s, nil, api.ErrForm)
		}
		wantParse(t, over+" "+s, nil, api.ErrRange)
		wantParse(t, "{"+over+"} ["+s+"]", nil, api.ErrRange)
	}
}

// TestParseFormAheadOfNumbers: however early the number stands.
func TestParseFormAheadOfNumbers(t *testing.T) {
	const over = "4294967296"
	for _, s := range []string{
		"# ", " #", "#  1", "{#", "#}", "{#,}", "{#)", "# | ", "# {}", "# 1,2", "(# 1", "# (1) 2) 3", "#{1}", "{#}{1}", "{# 1}", "# || 1",
		"# " + join(300, "1", " ") + " ", join(40, "{#}", " ") + " ", join(300, "#", " ") + "|",
	} {
		wantParse(t, strings.ReplaceAll(s, "#", over), nil, api.ErrForm)
	}
}

// TestParseNumbersAheadOfFull: wherever the number stands.
func TestParseNumbersAheadOfFull(t *testing.T) {
	for _, c := range []struct {
		s string
		e api.Errno
	}{
		{"4294967296", api.ErrRange}, {"01", api.ErrForm},
	} {
		for _, long := range []string{join(256, "1", " "), join(33, "{1}", " "), "{" + join(256, "1", ",") + "}", join(33, join(256, "1", " "), " | ")} {
			wantParse(t, long, nil, api.ErrFull)
			wantParse(t, long+" ("+c.s+")", nil, c.e)
			wantParse(t, "("+c.s+") "+long, nil, c.e)
			wantParse(t, strings.Replace(long, "1", c.s, 1), nil, c.e)
			wantParse(t, long+" {1} ", nil, api.ErrForm)
		}
	}
}

// pattern is what is a path's text but for numbers.
var pattern = func() *regexp.Regexp {
	n := `[^{}()\[\],| ]+`
	set, confedSet := `\{`+n+`(,`+n+`)*\}`, `\[`+n+`(,`+n+`)*\]`
	confed, plain := `\(`+n+`( `+n+`)*\)`, n+`( `+n+`)*( \| `+n+`( `+n+`)*)*`
	around := `(` + set + `|` + confedSet + `|` + confed + `)`
	// between two rows of Sequences there is something in brackets
	return regexp.MustCompile(`^(` + plain + `|(` + plain + ` )?` + around + `( ` + around + `|( ` + plain + `) ` + around + `)*( ` + plain + `)?)$`)
}()

var piece = regexp.MustCompile(`[^{}()\[\],| ]+`)

// textModel is what Parse is to answer of a text with few numbers, but for the
// path.
func textModel(s string) api.Errno {
	if s == "-" {
		return api.OK
	}
	if !pattern.MatchString(s) {
		return api.ErrForm
	}
	for _, n := range piece.FindAllString(s, -1) {
		if _, e := number.Parse(n); e != api.OK {
			return e
		}
	}
	return api.OK
}

// wantAsTextModel holds Parse against the model and, of what is read, P7.4.
func wantAsTextModel(t *testing.T, s string) api.Errno {
	t.Helper()
	p, e := path.Parse(s)
	if e != textModel(s) || e != api.OK && len(p) > 0 {
		t.Errorf("Parse(%q): %v, %d, want %d", s, p, e, textModel(s))
	}
	if e != api.OK {
		return e
	}
	wantMay(t, p, true)
	if !strings.Contains(s, ".") {
		wantText(t, p, s)
	}
	wantParse(t, p.Text(), p, api.OK)
	return e
}

// edits tells f of s with one byte of what may stand there put in, taken out or
// changed.
func edits(s string, f func(string)) {
	for at := range len(s) + 1 {
		for _, c := range []string{"{", "}", "(", ")", "[", "]", ",", "|", " ", "-", "0", "1", ".", "x"} {
			f(s[:at] + c + s[at:])
			if at < len(s) {
				f(s[:at] + c + s[at+1:])
			}
		}
		if at < len(s) {
			f(s[:at] + s[at+1:])
		}
	}
}

// TestTextsNearby plays all texts up to two edits away from true ones.
func TestTextsNearby(t *testing.T) {
	count := map[api.Errno]int{}
	for _, s := range []string{"-", "1 2", "1 | 2", "{1,2}", "(1 2)", "[1,2]", "1 {2} 3", "(1) (2)", "[1] {2}", "(1 2) 3", "1 | 2 | 3", "4294967296 01"} {
		count[wantAsTextModel(t, s)]++
		edits(s, func(s string) {
			edits(s, func(s string) { count[wantAsTextModel(t, s)]++ })
		})
		if t.Failed() {
			return
		}
	}
	if count[api.OK] < 1000 || count[api.ErrForm] < 10000 || count[api.ErrRange] < 100 {
		t.Error("too few of some:", count)
	}
}

// TestEveryShortText plays all texts of up to six of the marks and a number.
func TestEveryShortText(t *testing.T) {
	texts := []string{""}
	for len(texts) > 0 && !t.Failed() {
		s := texts[0]
		texts = texts[1:]
		wantAsTextModel(t, s)
		for _, c := range []string{"{", "}", "(", ")", ",", "|", " ", "1"} {
			if len(s) < 6 {
				texts = append(texts, s+c)
			}
		}
	}
}

// TestTextThereAndBack: P7.4 of texts.
func TestTextThereAndBack(t *testing.T) {
	draw := draws(10)
	for range 3000 {
		p := drawn(draw, 32, 12)
		s := p.Text()
		wantParse(t, s, p, api.OK)
		wantAsTextModel(t, s)
	}
	for _, kind := range []byte{1, 2, 3, 4} {
		p := slices.Repeat(path.Of(kind, row(255)...), 32)
		wantParse(t, p.Text(), p, api.OK)
	}
}

// TestTextsDiffer: of two paths that are not the same.
func TestTextsDiffer(t *testing.T) {
	of := map[string]path.Path{}
	for _, p := range others {
		if !p.May() {
			continue
		}
		if q, is := of[p.Text()]; is {
			t.Errorf("%v and %v are %q", p, q, p.Text())
		}
		of[p.Text()] = p
	}
}

func TestParsedSharesNoMemory(t *testing.T) {
	p, _ := path.Parse("1 2 {3,4} (5) | 6")
	if p != nil {
		t.Error(p)
	}
	p, _ = path.Parse("1 2 {3,4} 5 | 6")
	for _, s := range p {
		_ = append(s.Numbers, 99, 99, 99)
	}
	wantText(t, p, "1 2 {3,4} 5 | 6")
}
