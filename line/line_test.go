package line_test

import (
	"math/rand"
	"reflect"
	"regexp"
	"slices"
	"strings"
	"testing"

	"dateline/api"
	"dateline/line"
)

func outer(number int, fields ...string) api.Line {
	return api.Line{Number: number, Fields: fields}
}

func inner(number int, fields ...string) api.Line {
	return api.Line{Number: number, Inner: true, Fields: fields}
}

// same tells whether lines are the same; whether an empty list is nil does not count.
func same(a, b []api.Line) bool {
	return slices.EqualFunc(a, b, func(x, y api.Line) bool {
		return x.Number == y.Number && x.Inner == y.Inner && slices.Equal(x.Fields, y.Fields)
	})
}

// B1: which lines and fields there are.
func TestSplit(t *testing.T) {
	for _, c := range []struct {
		text string
		want []api.Line
	}{
		{"", nil},
		{"\n", nil},
		{" \t \n\t\n", nil},
		{"# \"", nil},
		{"  # a", nil},
		{"a", []api.Line{outer(1, "a")}},
		{"a\n", []api.Line{outer(1, "a")}},
		{"a b\tc \t d \t", []api.Line{outer(1, "a", "b", "c", "d")}},
		{" a\n\tb\nc", []api.Line{inner(1, "a"), inner(2, "b"), outer(3, "c")}},
		{"\n\na\n#\n \nb", []api.Line{outer(3, "a"), outer(6, "b")}},
		{"a#b \"c\x00\x7f\xff\r", []api.Line{outer(1, "a")}},
		{"a #\nb", []api.Line{outer(1, "a"), outer(2, "b")}},
		{`""`, []api.Line{outer(1, "")}},
		{`"" ""`, []api.Line{outer(1, "", "")}},
		{"\" a\t#b \" c", []api.Line{outer(1, " a\t#b ", "c")}},
		{"\"a\"\t\"b\"#c\n\"d\"", []api.Line{outer(1, "a", "b"), outer(2, "d")}},
		{`" a"`, []api.Line{outer(1, " a")}},
		{`"#"#"`, []api.Line{outer(1, "#")}},
		{"!~'%\\", []api.Line{outer(1, "!~'%\\")}},
		{strings.Repeat("x", 24) + " \"" + strings.Repeat(" ", 24) + "\"", []api.Line{outer(1, strings.Repeat("x", 24), strings.Repeat(" ", 24))}},
		{strings.Repeat("f ", 12) + "# g", []api.Line{outer(1, strings.Fields(strings.Repeat("f ", 12))...)}},
	} {
		l, n, e := line.Split(c.text)
		if !same(l, c.want) || n != 0 || e != api.OK {
			t.Errorf("Split(%q) = %v, %d, %d; want %v", c.text, l, n, e, c.want)
		}
	}
}

// B1, P1: each error of Split, where it is, and which one comes where several apply.
func TestSplitErrors(t *testing.T) {
	long := strings.Repeat("x", 25)
	twelve := strings.Repeat("f ", 12)
	for _, c := range []struct {
		text   string
		number int
		want   api.Errno
	}{
		{"\x1f", 1, api.ErrForm},
		{"\x7f", 1, api.ErrForm},
		{"a\x00", 1, api.ErrForm},
		{"a \xff", 1, api.ErrForm},
		{"a\r\n", 1, api.ErrForm},
		{"\xc3\xa4", 1, api.ErrForm},
		{"\"a\x01\"", 1, api.ErrForm},
		{"\x1f#", 1, api.ErrForm},
		{"a\n b\n\n\v", 4, api.ErrForm},
		{`"`, 1, api.ErrForm},
		{`"a`, 1, api.ErrForm},
		{`"a#b`, 1, api.ErrForm},
		{"\"a\nb\"", 1, api.ErrForm},
		{`a "b`, 1, api.ErrForm},
		{`"""`, 1, api.ErrForm},
		{`"a"b`, 1, api.ErrForm},
		{`"a""b"`, 1, api.ErrForm},
		{"\"a\"\x7f", 1, api.ErrForm},
		{`a"`, 1, api.ErrForm},
		{`a"b"`, 1, api.ErrForm},
		{"a\nb\"", 2, api.ErrForm},
		{long, 1, api.ErrMany},
		{"a\n" + long + "#", 2, api.ErrMany},
		{`"` + long + `"`, 1, api.ErrMany},
		{twelve + "f", 1, api.ErrMany},
		{"\n" + twelve + `""`, 2, api.ErrMany},
		{"\n" + twelve + `f#`, 2, api.ErrMany},

		// of one field ErrForm first
		{long + `"`, 1, api.ErrForm},
		{long + "\x7f", 1, api.ErrForm},
		{`"` + long, 1, api.ErrForm},
		{`"` + long + `"x`, 1, api.ErrForm},
		{`"` + long + "\"\x7f", 1, api.ErrForm},
		{twelve + `f"`, 1, api.ErrForm},
		{twelve + `"f`, 1, api.ErrForm},
		{twelve + "\x7f", 1, api.ErrForm},

		// from left to right
		{long + " \x7f", 1, api.ErrMany},
		{long + " \"", 1, api.ErrMany},
		{"\x7f " + long, 1, api.ErrForm},
		{twelve + "f \x7f", 1, api.ErrMany},
		{"\"a\"b " + long, 1, api.ErrForm},

		// line by line
		{long + "\n\x7f", 1, api.ErrMany},
		{"\x7f\n" + long, 1, api.ErrForm},

		// the whole text: its bytes first of all, its lines at last
		{strings.Repeat("\n", 8001), 0, api.ErrMany},
		{"\x7f" + strings.Repeat("\n", 8000), 0, api.ErrMany},
		{strings.Repeat("a\n", 201), 0, api.ErrMany},
		{strings.Repeat("a\n", 201) + "\x7f", 202, api.ErrForm},
		{strings.Repeat("a\n", 201) + "\n" + long, 203, api.ErrMany},
	} {
		l, n, e := line.Split(c.text)
		if len(l) != 0 || n != c.number || e != c.want {
			t.Errorf("Split(%.60q) = %v, %d, %d; want nothing, %d, %d", c.text, l, n, e, c.number, c.want)
		}
	}
}

// B1: just as many bytes and lines as there may be.
func TestSplitLimits(t *testing.T) {
	for _, c := range []struct {
		text  string
		lines int
	}{
		{strings.Repeat("\n", 8000), 0},
		{strings.Repeat("#", 8000), 0},
		{strings.Repeat(" ", 7999) + "a", 1},
		{strings.Repeat("a\n", 200), 200},
		{strings.Repeat("a\n# b\n\n", 200), 200},
	} {
		l, n, e := line.Split(c.text)
		if len(l) != c.lines || n != 0 || e != api.OK {
			t.Errorf("Split(%.20q) has %d lines, %d, %d; want %d", c.text, len(l), n, e, c.lines)
		}
	}
}

var (
	gaps    = regexp.MustCompile(`^[ \t]+`)
	fielded = regexp.MustCompile(`^(?:"([\t !#-~]*)"|([!$-~]+))([ \t#]|$)`)
)

// slowSplit of a short text, by expressions.
func slowSplit(s string) ([]api.Line, int, api.Errno) {
	var lines []api.Line
	for i, row := range strings.Split(s, "\n") {
		l := api.Line{Number: i + 1, Inner: gaps.MatchString(row)}
		for {
			row = row[len(gaps.FindString(row)):]
			if row == "" || row[0] == '#' {
				break
			}
			m := fielded.FindStringSubmatch(row)
			if m == nil || strings.Contains(m[2], `"`) {
				return nil, i + 1, api.ErrForm
			}
			l.Fields = append(l.Fields, m[1]+m[2])
			row = row[len(m[0])-len(m[3]):]
		}
		if len(l.Fields) > 0 {
			lines = append(lines, l)
		}
	}
	return lines, 0, api.OK
}

// eachText of at most so many of these signs.
func eachText(signs string, most int, do func(s string)) {
	var goOn func(s string)
	goOn = func(s string) {
		do(s)
		if len(s) == most {
			return
		}
		for i := range len(signs) {
			goOn(s + signs[i:i+1])
		}
	}
	goOn("")
}

// B1: all short texts of the signs that matter, held against another way to split them.
func TestSplitShortTexts(t *testing.T) {
	eachText("a \t\"#\n\x7f", 6, func(s string) {
		l, n, e := line.Split(s)
		want, number, errno := slowSplit(s)
		if !same(l, want) || n != number || e != errno {
			t.Fatalf("Split(%q) = %v, %d, %d; want %v, %d, %d", s, l, n, e, want, number, errno)
		}
	})
}

// B2: the text of lines.
func TestJoin(t *testing.T) {
	for _, c := range []struct {
		lines []api.Line
		want  string
	}{
		{nil, ""},
		{[]api.Line{}, ""},
		{[]api.Line{outer(0, "a")}, "a\n"},
		{[]api.Line{outer(0, "a", "b"), inner(-7, "c", "d"), outer(1<<40, "e")}, "a b\n c d\ne\n"},
		{[]api.Line{outer(0, "", "a b", "c\td", "e#f", "#", " ", "\t", "!~'\\")}, "\"\" \"a b\" \"c\td\" \"e#f\" \"#\" \" \" \"\t\" !~'\\\n"},
		{[]api.Line{inner(0, "")}, " \"\"\n"},
		{[]api.Line{outer(0, strings.Repeat("x", 24), strings.Repeat(" ", 24))}, strings.Repeat("x", 24) + " \"" + strings.Repeat(" ", 24) + "\"\n"},
		{[]api.Line{outer(0, make([]string, 12)...)}, strings.Repeat("\"\" ", 11) + "\"\"\n"},
		{slices.Repeat([]api.Line{outer(0, "a")}, 200), strings.Repeat("a\n", 200)},
	} {
		if s, e := line.Join(c.lines); s != c.want || e != api.OK {
			t.Errorf("Join(%v) = %q, %d; want %q", c.lines, s, e, c.want)
		}
	}
}

// B2, P1: each error of Join, and which one comes where several apply.
func TestJoinErrors(t *testing.T) {
	long := strings.Repeat("x", 25)
	many := make([]string, 13)
	for _, c := range []struct {
		lines []api.Line
		want  api.Errno
	}{
		{make([]api.Line, 201), api.ErrMany},
		{slices.Repeat([]api.Line{outer(0, "a")}, 201), api.ErrMany},
		{[]api.Line{{}}, api.ErrForm},
		{[]api.Line{{Inner: true, Fields: []string{}}}, api.ErrForm},
		{[]api.Line{outer(0, "a"), {}}, api.ErrForm},
		{[]api.Line{outer(0, many...)}, api.ErrMany},
		{[]api.Line{outer(0, `a"b`)}, api.ErrForm},
		{[]api.Line{outer(0, `"`)}, api.ErrForm},
		{[]api.Line{outer(0, "a\nb")}, api.ErrForm},
		{[]api.Line{outer(0, "\x1f")}, api.ErrForm},
		{[]api.Line{outer(0, "\x7f")}, api.ErrForm},
		{[]api.Line{outer(0, "a", "\xff")}, api.ErrForm},
		{[]api.Line{outer(0, long)}, api.ErrMany},
		{[]api.Line{outer(0, "a", strings.Repeat(" ", 25))}, api.ErrMany},

		// line by line
		{[]api.Line{{}, outer(0, many...)}, api.ErrForm},
		{[]api.Line{outer(0, many...), {}}, api.ErrMany},
		{[]api.Line{outer(0, long), outer(0, `"`)}, api.ErrMany},
		{[]api.Line{outer(0, `"`), outer(0, long)}, api.ErrForm},

		// how many fields there are ahead of the fields
		{[]api.Line{outer(0, slices.Repeat([]string{`"`}, 13)...)}, api.ErrMany},

		// field by field, of one ErrForm first
		{[]api.Line{outer(0, long, `"`)}, api.ErrMany},
		{[]api.Line{outer(0, `"`, long)}, api.ErrForm},
		{[]api.Line{outer(0, long+`"`)}, api.ErrForm},
		{[]api.Line{outer(0, long+"\x00")}, api.ErrForm},

		// the text's bytes at last
		{slices.Repeat([]api.Line{outer(0, strings.Repeat("x", 24), strings.Repeat("y", 24))}, 200), api.ErrMany},
		{append(slices.Repeat([]api.Line{outer(0, strings.Repeat("x", 24), strings.Repeat("y", 24))}, 199), api.Line{}), api.ErrForm},
	} {
		if s, e := line.Join(c.lines); s != "" || e != c.want {
			t.Errorf("Join(%.80v) = %q, %d; want nothing, %d", c.lines, s, e, c.want)
		}
	}
}

// B2: the last byte that there may be; what stands around and between fields counts.
func TestJoinTextLimit(t *testing.T) {
	// 160 lines of 50 bytes are 8000.
	l := slices.Repeat([]api.Line{outer(0, strings.Repeat("x", 24), strings.Repeat("y", 24))}, 160)
	if s, e := line.Join(l); len(s) != api.MaxText || e != api.OK {
		t.Errorf("%d bytes, %d; want all", len(s), e)
	}
	more := slices.Clone(l)
	more[77].Inner = true
	if s, e := line.Join(more); s != "" || e != api.ErrMany {
		t.Errorf("a blank more: %d bytes, %d; want ErrMany", len(s), e)
	}
	quoted := slices.Clone(l)
	quoted[159] = outer(0, strings.Repeat("x", 24), strings.Repeat("y", 22)+"#")
	if s, e := line.Join(quoted); s != "" || e != api.ErrMany {
		t.Errorf("a byte less, but quoted: %d bytes, %d; want ErrMany", len(s), e)
	}
}

func randomField(r *rand.Rand) string {
	const signs = "ab~! \t#"
	f := make([]byte, r.Intn(api.MaxField+1))
	for i := range f {
		f[i] = signs[r.Intn(len(signs))]
	}
	return string(f)
}

func randomLines(r *rand.Rand) []api.Line {
	l := make([]api.Line, r.Intn(24))
	for i := range l {
		l[i] = api.Line{Number: r.Int(), Inner: r.Intn(2) == 0}
		for range 1 + r.Intn(api.MaxFields) {
			l[i].Fields = append(l[i].Fields, randomField(r))
		}
	}
	return l
}

// B3: what is joined is split as it was, but for numbers.
func TestJoinedIsSplit(t *testing.T) {
	r := rand.New(rand.NewSource(1))
	for range 3000 {
		l := randomLines(r)
		s, e := line.Join(l)
		if e != api.OK {
			t.Fatalf("Join(%v): %d", l, e)
		}
		back, n, e := line.Split(s)
		for i := range l {
			l[i].Number = i + 1
		}
		if !same(back, l) || n != 0 || e != api.OK {
			t.Fatalf("Split(%q) = %v, %d, %d; want %v", s, back, n, e, l)
		}
	}
}

// B3: and what is split comes back, whatever the text was.
func TestSplitIsJoined(t *testing.T) {
	eachText("a \"#\n", 6, func(s string) {
		l, _, e := line.Split(s)
		if e != api.OK {
			return
		}
		joined, e := line.Join(l)
		back, _, f := line.Split(joined)
		for i := range l {
			l[i].Number = i + 1
		}
		if e != api.OK || f != api.OK || !same(back, l) {
			t.Fatalf("%v came back as %v", l, back)
		}
	})
}

// P1: any bytes; with an error there are no lines.
func TestSplitAnyBytes(t *testing.T) {
	r := rand.New(rand.NewSource(2))
	for range 3000 {
		s := make([]byte, r.Intn(300))
		for i := range s {
			s[i] = byte(r.Intn(256))
			if r.Intn(3) > 0 {
				s[i] = "a \t\"#\n"[r.Intn(6)]
			}
		}
		l, n, e := line.Split(string(s))
		if e == api.OK && n != 0 || e != api.OK && len(l) != 0 || e == api.ErrForm && n < 1 {
			t.Fatalf("Split(%q) = %v, %d, %d", s, l, n, e)
		}
	}
}

// P2: Join only reads its lines, and the spare room behind each list too.
func TestJoinOnlyReads(t *testing.T) {
	given := func() []api.Line {
		fields := []string{"a", "b c", "spare", "spare"}
		return []api.Line{inner(3, fields[:2]...), outer(4, fields[:1]...), outer(9, "spare")}
	}
	l := given()
	first, _ := line.Join(l[:2])
	if want := given(); !reflect.DeepEqual(l, want) || !reflect.DeepEqual(l[0].Fields[:4], want[0].Fields[:4]) {
		t.Errorf("Join left %v", l)
	}
	l[0].Fields[0] = "z"
	if first != " a \"b c\"\na\n" {
		t.Errorf("a later change is seen: %q", first)
	}
}

// P2: no two lists of an answer share memory, nor do two answers.
func TestSplitListsAreApart(t *testing.T) {
	const text = "a b c\nd e\nf\n"
	l, _, _ := line.Split(text)
	other, _, _ := line.Split(text)
	for i := range l {
		spare := l[i].Fields[:cap(l[i].Fields)]
		for k := range spare {
			spare[k] = "z"
		}
		l[i].Number = -1
		for k := i + 1; k < len(l); k++ {
			if !slices.Equal(l[k].Fields, other[k].Fields) {
				t.Errorf("line %d changed with line %d", k, i)
			}
		}
	}
	want := []api.Line{outer(1, "a", "b", "c"), outer(2, "d", "e"), outer(3, "f")}
	if !same(other, want) {
		t.Errorf("another answer changed: %v", other)
	}
}

// P3: what was asked in between changes no answer, errors least of all.
func TestAnswersStay(t *testing.T) {
	const text = "a \"b c\"\n d\n"
	for _, between := range []string{"", "\x7f", "\"", strings.Repeat("\n", 9000), "x\ny\nz"} {
		line.Split(between)
		line.Join([]api.Line{outer(1, between)})
		l, n, e := line.Split(text)
		if !same(l, []api.Line{outer(1, "a", "b c"), inner(2, "d")}) || n != 0 || e != api.OK {
			t.Errorf("behind %.10q: Split is %v, %d, %d", between, l, n, e)
		}
		if s, e := line.Join(l); s != text || e != api.OK {
			t.Errorf("behind %.10q: Join is %q, %d", between, s, e)
		}
	}
}

// P4: what is far above a limit has the limit's answer.
func TestGreatInputs(t *testing.T) {
	great := strings.Repeat("x ", 1<<23)
	if l, n, e := line.Split(great); len(l) != 0 || n != 0 || e != api.ErrMany {
		t.Errorf("a great text: %d lines, %d, %d", len(l), n, e)
	}
	if s, e := line.Join(make([]api.Line, 1<<20)); s != "" || e != api.ErrMany {
		t.Errorf("many lines: %q, %d", s, e)
	}
	if s, e := line.Join([]api.Line{outer(1, make([]string, 1<<20)...)}); s != "" || e != api.ErrMany {
		t.Errorf("many fields: %q, %d", s, e)
	}
	if s, e := line.Join([]api.Line{outer(1, great)}); s != "" || e != api.ErrMany {
		t.Errorf("a great field: %d bytes, %d", len(s), e)
	}
	if s, e := line.Join([]api.Line{outer(1, great+"\n")}); s != "" || e != api.ErrForm {
		t.Errorf("a great field with a line feed: %d bytes, %d", len(s), e)
	}
}
