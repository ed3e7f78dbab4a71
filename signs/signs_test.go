package signs_test

import (
	"strings"
	"testing"

	"dateline/signs"
)

func TestForms(t *testing.T) {
	long := strings.Repeat("n", 24)
	for _, c := range []struct {
		s                            string
		name, letters, format, plain bool
	}{
		{"", false, true, false, true},
		{"aZ", true, true, true, true},
		{"a1", true, false, true, true},
		{"1a", false, false, true, true},
		{"+1-", false, false, true, true},
		{"a_b", true, false, false, false},
		{"a/b", true, false, true, false},
		{"a/b/c", true, false, false, false},
		{"a/", true, false, false, false},
		{"/a", false, false, false, false},
		{"a%sb", false, false, true, false},
		{"%s", false, false, true, false},
		{"%s%s", false, false, false, false},
		{"a%s/b", false, false, false, false},
		{"a b", false, false, false, false},
		{"a\xc3\xa9", false, false, false, false},
		{"@[`{/:", false, false, false, false},
		{long, true, true, true, true},
		{long + "n", false, false, false, false},
	} {
		name, letters, format, plain := signs.IsName(c.s), signs.IsLetters(c.s), signs.IsFormat(c.s), signs.IsPlain(c.s)
		if name != c.name || letters != c.letters || format != c.format || plain != c.plain {
			t.Errorf("%q: %v, %v, %v, %v", c.s, name, letters, format, plain)
		}
	}
}

func TestSpan(t *testing.T) {
	for _, c := range []struct {
		s    string
		want int
	}{
		{"", 0}, {"a", 0}, {"1", 1}, {"12a3", 2}, {"123", 3},
	} {
		if n := signs.Span(c.s, signs.IsDigit); n != c.want {
			t.Errorf("Span(%q) = %d; want %d", c.s, n, c.want)
		}
	}
}
