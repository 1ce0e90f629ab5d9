package focus_test

import (
	"testing"

	"chiasmus/core"
	"chiasmus/kind"
)

func TestP9_1AgainstTheDefinition(t *testing.T) {
	count := map[bool]int{}
	for _, c := range made(t, 1, 3, 6000) {
		want := focusedByDefinition(c)
		if got := isFocused(t, c); got != want {
			t.Fatalf("%v for\n%s", got, text(c))
		}
		count[want]++
	}
	if count[true] < 1000 || count[false] < 1000 {
		t.Error(count)
	}
}

func TestP9_2AgainstTheDefinition(t *testing.T) {
	again := made(t, 2, 6, 4000)
	producers, consumers := 0, 0
	for i, c := range made(t, 2, 6, 4000) {
		got := focused(t, c)
		p, a := focusedByReference(again[i])
		producers, consumers = producers+p, consumers+a
		if !same(t, got, again[i]) {
			t.Fatalf("%s has become\n%s", text(c), text(got))
		}
	}
	if producers < 5000 || consumers < 1000 {
		t.Errorf("only %d producers and %d consumers are named", producers, consumers)
	}
}

// P9.3: what is focused is focused, and as well-typed as before; focusing it again changes nothing.
func TestP9_3(t *testing.T) {
	changed := 0
	for _, c := range made(t, 3, 6, 3000) {
		once := focused(t, c)
		if !isFocused(t, once) || !focusedByDefinition(once) {
			t.Fatalf("%s has become\n%s", text(c), text(once))
		}
		if e := kind.Check(once); e != 0 {
			t.Fatalf("%d for\n%s", e, text(once))
		}
		if !same(t, once, focused(t, once)) {
			t.Fatalf("%s is focused again", text(once))
		}
		equal, _ := core.Equal(c, once)
		if equal != isFocused(t, c) {
			t.Fatalf("%s has become\n%s", text(c), text(once))
		}
		if !equal {
			changed++
		}
	}
	if changed < 1000 || changed > 2900 {
		t.Errorf("%d of them changed", changed)
	}
}
