package source

import (
	"strings"

	"dateline/api"
)

// span: how many bytes there are ahead of the first for which a text does not go on.
func span(s string, goesOn func(c byte) bool) int {
	for i := range len(s) {
		if !goesOn(s[i]) {
			return i
		}
	}
	return len(s)
}

// isAll tells whether a text that is not too long goes on to its end.
func isAll(s string, goesOn func(c byte) bool) bool {
	return len(s) <= api.MaxField && span(s, goesOn) == len(s)
}

func isName(s string) bool {
	return s != "" && isLetter(s[0]) && isAll(s, func(c byte) bool {
		return isLetter(c) || isDigit(c) || strings.IndexByte("_-/+", c) >= 0
	})
}

// isLetters: letters, or none.
func isLetters(s string) bool { return isAll(s, isLetter) }

func isFormat(s string) bool {
	if s == "" || len(s) > api.MaxField {
		return false
	}
	if head, tail, ok := strings.Cut(s, "%s"); ok {
		return isPlain(head) && isPlain(tail)
	}
	if head, tail, ok := strings.Cut(s, "/"); ok {
		return head != "" && tail != "" && isPlain(head) && isPlain(tail)
	}
	return isPlain(s)
}

// isPlain: what a format may have beside its '%s' or '/'.
func isPlain(s string) bool {
	return isAll(s, func(c byte) bool {
		return isLetter(c) || isDigit(c) || c == '+' || c == '-'
	})
}

func isLetter(c byte) bool { return c >= 'a' && c <= 'z' || c >= 'A' && c <= 'Z' }

func isDigit(c byte) bool { return c >= '0' && c <= '9' }
