package text_test

import (
	"reflect"
	"strings"
	"testing"

	"chiasmus/api"
	"chiasmus/text"
)

func TestP3_3RoundTrip(t *testing.T) {
	s := numbers(1)
	valid := 0
	for range 20000 {
		p := program(s.term(1+s.below(6), []string{"x", "y"}, []string{"k"}))
		out, e := text.String(p)
		if e != api.OK {
			continue // it has too many nodes
		}
		valid++
		if len(out) > api.MaxText {
			fails(t, out, api.ErrLarge)
			continue
		}
		if q, e := text.Parse(out); !reflect.DeepEqual(q, p) || e != api.OK {
			t.Fatalf("%d %s", e, out)
		}
		if q, e := text.Parse(squeezedTerm(out)); !reflect.DeepEqual(q, p) || e != api.OK {
			t.Fatalf("%d %s", e, squeezedTerm(out))
		}
	}
	if valid < 10000 {
		t.Errorf("only %d of the programs are valid", valid)
	}
}

// squeezedTerm takes away some blanks that separate nothing.
func squeezedTerm(s string) string {
	return strings.NewReplacer(", ", ",", " = ", "=", " : ", ":", " + ", "+", " == ", "\n==", " => ", "=>", "{ ", "{").Replace(s)
}

// The string of a valid program may be too long to be parsed.
func TestP3_3TooLong(t *testing.T) {
	names := strings.Fields("abcdefghi0 abcdefghi1 abcdefghi2 abcdefghi3 abcdefghi4 abcdefghi5")
	d := api.Decl{Name: "abcdefghij"}
	var clauses []api.Clause
	for _, s := range names {
		d.Xtors = append(d.Xtors, api.Xtor{Name: "A" + s[1:], Args: make([]api.Arg, api.MaxArgs)})
		clauses = append(clauses, api.Clause{Names: names, Body: num(-1 << 63)})
	}
	p := api.Prog{Decls: []api.Decl{d}, Funs: []api.Fun{{Name: "main", Body: num(0)}}}
	shortest := 0
	for range 3 {
		x := num(0)
		for range 21 {
			x = node(api.TEmit, with(typed(1, 0, node(api.TCase, num(-1<<63))), clauses...), x)
		}
		p.Funs = append(p.Funs, api.Fun{Name: string(rune('a' + len(p.Funs))), Body: x})
		s, e := text.String(p)
		if e != api.OK {
			t.Fatal(e)
		}
		if len(s) <= api.MaxText {
			shortest++
			parses(t, s, p)
			continue
		}
		fails(t, s, api.ErrLarge)
	}
	if shortest != 2 {
		t.Errorf("%d of the strings are short enough", shortest)
	}
}

// What is parsed is what the string says: printed again, nothing but blanks and line feeds may differ.
func TestP3_2ChangedStrings(t *testing.T) {
	tokens := strings.Fields(spaced)
	others := append(strings.Fields("! 0 - -1 A == > int let main zz 99999999999999999999 [ é"), tokens...)
	s := numbers(2)
	count := map[api.Errno]int{}
	for range 40000 {
		l := append([]string(nil), tokens...)
		for range 1 + s.below(2) {
			i := s.below(len(l))
			switch s.below(4) {
			case 0:
				l = append(l[:i], l[i+1:]...)
			case 1:
				l[i] = pick(&s, others)
			case 2:
				l = append(l[:i], append([]string{pick(&s, others)}, l[i:]...)...)
			case 3:
				j := s.below(len(l))
				l[i], l[j] = l[j], l[i]
			}
		}
		in := strings.Join(l, " ")
		p, e := text.Parse(in)
		count[e]++
		if out, f := text.String(p); e == api.OK && (f != api.OK || squeezed(out) != squeezed(in)) {
			t.Fatalf("%q: %d %q", in, f, out)
		}
		if e != api.OK && !reflect.DeepEqual(p, api.Prog{}) {
			t.Fatalf("%q: %d %v", in, e, p)
		}
	}
	for _, e := range []api.Errno{api.OK, api.ErrText, api.ErrProg} {
		if count[e] < 500 {
			t.Errorf("too few of one kind: %v", count)
		}
	}
	if len(count) != 3 {
		t.Errorf("other errors: %v", count)
	}
}

// The beginning of a string is malformed, unless it ends with a declaration or a function.
func TestP3_2Beginnings(t *testing.T) {
	want := map[string]api.Errno{"": api.ErrProg}
	whole := ""
	for _, line := range strings.SplitAfter(spacedString, "\n") {
		whole += squeezed(line)
		want[whole] = api.ErrProg
	}
	want[whole] = api.OK
	for i := range len(spaced) + 1 {
		e, ok := want[squeezed(spaced[:i])]
		if !ok {
			e = api.ErrText
		}
		if _, got := text.Parse(spaced[:i]); got != e {
			t.Errorf("%q: %d, not %d", spaced[:i], got, e)
		}
	}
}

// No call may panic (P1), whatever the bytes are.
func TestP1NoPanicInParse(t *testing.T) {
	s := numbers(3)
	tokens := strings.Fields(spaced)
	for range 50000 {
		var b strings.Builder
		for range s.below(30) {
			if s.below(20) == 0 {
				b.WriteByte(byte(s.below(256)))
			} else {
				b.WriteString(pick(&s, tokens) + " "[s.below(2):])
			}
		}
		if p, e := text.Parse(b.String()); e != api.ErrText && e != api.ErrProg && e != api.OK || e != api.OK && !reflect.DeepEqual(p, api.Prog{}) {
			t.Fatalf("%q: %d %v", b.String(), e, p)
		}
	}
}
