// Package letters finds words and numbers at the beginning of a string. Every layer that parses strings shares it, so that all of them agree.
package letters

// IsLower reports whether c is a lowercase letter.
func IsLower(c byte) bool {
	return 'a' <= c && c <= 'z'
}

// IsUpper reports whether c is an uppercase letter.
func IsUpper(c byte) bool {
	return 'A' <= c && c <= 'Z'
}

// IsDigit reports whether c is a digit.
func IsDigit(c byte) bool {
	return '0' <= c && c <= '9'
}

// Word returns the length of the word with which s begins: a letter, followed by lowercase letters and digits. It is 0 if s begins with no letter.
func Word(s string) int {
	if s == "" || !IsLower(s[0]) && !IsUpper(s[0]) {
		return 0
	}
	n := 1
	for n < len(s) && (IsLower(s[n]) || IsDigit(s[n])) {
		n++
	}
	return n
}

// Number returns the length of the number with which s begins. It is 0 if s begins with no digit, and 1 if it begins with a zero: there are no leading zeros.
func Number(s string) int {
	n := 0
	for n < len(s) && IsDigit(s[n]) && (n == 0 || s[0] != '0') {
		n++
	}
	return n
}
