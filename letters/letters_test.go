package letters

import "testing"

func TestBytes(t *testing.T) {
	for c := range 256 {
		b := byte(c)
		lower, upper, digit := b >= 97 && b <= 122, b >= 65 && b <= 90, b >= 48 && b <= 57
		if IsLower(b) != lower || IsUpper(b) != upper || IsDigit(b) != digit {
			t.Errorf("%q: %v %v %v", b, IsLower(b), IsUpper(b), IsDigit(b))
		}
	}
}

func TestWord(t *testing.T) {
	for s, want := range map[string]int{"": 0, "9a": 0, " a": 0, "_": 0, "é": 0, "a": 1, "Z": 1, "a b": 1, "aB": 1, "AB": 1, "Ab0c9 ": 5, "x0)": 2, "aé": 1} {
		if n := Word(s); n != want {
			t.Errorf("%q: %d, not %d", s, n, want)
		}
	}
}

func TestNumber(t *testing.T) {
	for s, want := range map[string]int{"": 0, "a1": 0, "-1": 0, "+1": 0, " 1": 0, "0": 1, "00": 1, "01": 1, "7": 1, "10": 2, "100x": 3, "99999999999999999999": 20} {
		if n := Number(s); n != want {
			t.Errorf("%q: %d, not %d", s, n, want)
		}
	}
}
