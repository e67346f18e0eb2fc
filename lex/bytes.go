package lex

import (
	"strconv"
	"strings"

	"thyrsus/api"
)

// maxNum is the greatest number, and without its sign the least one.
const maxNum = 1 << 62

// run counts the bytes at the front of s of which in says yes.
func run(s string, in func(byte) bool) int {
	for i := range len(s) {
		if !in(s[i]) {
			return i
		}
	}
	return len(s)
}

func isBlank(c byte) bool {
	return c == ' ' || c == '\t' || c == '\n' || c == '\r'
}

func isDigit(c byte) bool { return '0' <= c && c <= '9' }

func inLine(c byte) bool { return c != '\n' }

func inName(c byte) bool {
	return 'a' <= c && c <= 'z' || 'A' <= c && c <= 'Z' || isDigit(c) || c == '_' || c == '\''
}

func beginsName(s string) bool { return inName(s[0]) && !isDigit(s[0]) }

func beginsNumber(s string) bool {
	return isDigit(s[0]) || s[0] == '-' && len(s) > 1 && isDigit(s[1])
}

// bracket tells the kind of token that the byte is by itself; 0: it is no bracket.
func bracket(c byte) int {
	switch c {
	case '(':
		return api.TOpen
	case ')':
		return api.TClose
	}
	return 0
}

// sign tells how long the sign is that s begins with; 0: there is none.
func sign(s string) int {
	switch {
	case strings.HasPrefix(s, "->"):
		return 2
	case s[0] == '*':
		return 1
	}
	return 0
}

// value tells a number's; false: it is beyond the bounds.
func value(s string) (int, bool) {
	n, err := strconv.ParseInt(s, 10, 64)
	if err != nil || n < -maxNum || n > maxNum {
		return 0, false
	}
	return int(n), true
}
