// Package signs: of which signs texts are made, and of which forms.
package signs

import (
	"strings"

	"dateline/api"
)

// Span: how many bytes there are ahead of the first for which a text does not go on.
func Span(s string, goesOn func(c byte) bool) int {
	for i := range len(s) {
		if !goesOn(s[i]) {
			return i
		}
	}
	return len(s)
}

// isAll tells whether a text that is not too long goes on to its end.
func isAll(s string, goesOn func(c byte) bool) bool {
	return len(s) <= api.MaxField && Span(s, goesOn) == len(s)
}

// IsName: a name of rules, a zone or a link.
func IsName(s string) bool {
	return s != "" && IsLetter(s[0]) && isAll(s, func(c byte) bool {
		return IsLetter(c) || IsDigit(c) || strings.IndexByte("_-/+", c) >= 0
	})
}

// IsLetters: letters, or none.
func IsLetters(s string) bool { return isAll(s, IsLetter) }

// IsFormat of names of times.
func IsFormat(s string) bool {
	if s == "" || len(s) > api.MaxField {
		return false
	}
	if head, tail, ok := strings.Cut(s, "%s"); ok {
		return IsPlain(head) && IsPlain(tail)
	}
	if head, tail, ok := strings.Cut(s, "/"); ok {
		return head != "" && tail != "" && IsPlain(head) && IsPlain(tail)
	}
	return IsPlain(s)
}

// IsPlain: what names of times are made of, and what a format may have beside its '%s' or '/'; or nothing.
func IsPlain(s string) bool {
	return isAll(s, func(c byte) bool {
		return IsLetter(c) || IsDigit(c) || c == '+' || c == '-'
	})
}

// IsLetter of those from a to z, great or small.
func IsLetter(c byte) bool { return c >= 'a' && c <= 'z' || c >= 'A' && c <= 'Z' }

// IsDigit from 0 to 9.
func IsDigit(c byte) bool { return c >= '0' && c <= '9' }
