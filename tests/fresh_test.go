package tests

import (
	"bytes"
	"slices"
	"testing"
)

func fill(b []byte, x byte) {
	for i := range b {
		b[i] = x
	}
}

// checkFresh fails if put, a function that returns b with or without something
// after it, changes b or its spare capacity, or if a result shares memory with
// b or with another result.
func checkFresh(t *testing.T, name string, put func(b []byte) []byte) {
	t.Helper()
	for length := range 4 {
		checkFreshAfter(t, name, bytes.Repeat([]byte{77}, length), put)
	}
}

// checkFreshAfter is checkFresh for the bytes front alone.
func checkFreshAfter(t *testing.T, name string, front []byte, put func(b []byte) []byte) {
	t.Helper()
	whole := append(bytes.Clone(front), bytes.Repeat([]byte{77}, 40)...)
	before := bytes.Clone(whole)
	out := put(whole[:len(front)])
	other := put(whole[:len(front)])
	if !bytes.Equal(whole, before) {
		t.Errorf("%s changed its argument: %v", name, whole)
	}
	want := bytes.Clone(other)
	fill(out[:cap(out)], 5)
	if !bytes.Equal(whole, before) || !bytes.Equal(other, want) {
		t.Errorf("the result of %s shares memory", name)
	}
	fill(whole, 6)
	if !bytes.Equal(other, want) {
		t.Errorf("the argument of %s shares memory", name)
	}
}

// checkFreshStrings fails if two results of get, a function that always
// returns the same strings, share memory.
func checkFreshStrings(t *testing.T, name string, get func() []string) {
	t.Helper()
	out, other := get(), get()
	want := slices.Clone(other)
	out = out[:cap(out)]
	for i := range out {
		out[i] = "x"
	}
	if !slices.Equal(other, want) || !slices.Equal(get(), want) {
		t.Errorf("two results of %s share memory", name)
	}
}
