package checks_test

import (
	"bytes"
	"testing"

	"plugboard/api"
	"plugboard/checks"
)

// TestR1ArgumentsStay: no function changes its argument, or the memory behind it.
func TestR1ArgumentsStay(t *testing.T) {
	behind := bytes.Repeat([]byte{0xa5}, 8)
	for name, f := range map[string]func([]byte){
		"Sixteen": func(b []byte) { checks.Sixteen(b) },
		"Add":     func(b []byte) { checks.Add(b) },
		"Check":   func(b []byte) { checks.Check(b) },
	} {
		for _, want := range [][]byte{nil, {7}, {0, 64, 190}, {0, 64, 191}, checks.Add(mixed(40))} {
			whole := append(bytes.Clone(want), behind...)
			f(whole[:len(want)])
			if !bytes.Equal(whole[:len(want)], want) || !bytes.Equal(whole[len(want):], behind) {
				t.Errorf("%s changes %x to %x", name, want, whole)
			}
		}
	}
}

// TestR3NilIsEmpty: a nil slice and an empty one are the same argument.
func TestR3NilIsEmpty(t *testing.T) {
	for _, b := range [][]byte{nil, {}} {
		if got := checks.Sixteen(b); got != 0 {
			t.Errorf("Sixteen = %d", got)
		}
		if got := checks.Add(b); !bytes.Equal(got, []byte{0, 0}) {
			t.Errorf("Add = %x", got)
		}
		if got, e := checks.Check(b); e != api.ErrWidth || got != nil {
			t.Errorf("Check = %x, %d", got, e)
		}
	}
}

// TestR4NewMemory: a result shares no memory with the argument or with another
// result, and its capacity is its length.
func TestR4NewMemory(t *testing.T) {
	for _, front := range [][]byte{{0}, []byte("123456789"), mixed(1024)} {
		room := append(make([]byte, 0, 4096), front...)
		added := checks.Add(front)
		for name, f := range map[string]func() []byte{
			"Add":   func() []byte { return checks.Add(room) },
			"Check": func() []byte { b, _ := checks.Check(added); return b },
		} {
			got, again := f(), f()
			want := bytes.Clone(got)
			if len(got) == 0 || !tight(got) {
				t.Errorf("%s: length %d, capacity %d", name, len(got), cap(got))
			}
			for i := range got {
				got[i] ^= 0xff
			}
			if !bytes.Equal(again, want) || !bytes.Equal(f(), want) || !bytes.Equal(room, front) {
				t.Errorf("%s of %x shares its result", name, front)
			}
		}
	}
	if got, e := checks.Check([]byte{0, 0}); e != api.OK || len(got) != 0 || cap(got) != 0 {
		t.Errorf("Check of 0, 0 = %x, %d, capacity %d", got, e, cap(got))
	}
}

// TestCallsKeepNothing: a call returns the same again, whatever was called in
// between.
func TestCallsKeepNothing(t *testing.T) {
	for range 3 {
		if got := checks.Sixteen([]byte("123456789")); got != 46280 {
			t.Errorf("Sixteen = %d", got)
		}
		if got, e := checks.Five(1813, 11); e != api.OK || got != 29 {
			t.Errorf("Five = %d, %d", got, e)
		}
		checks.Check([]byte{1, 2, 3})
		checks.Part(3, 4)
		checks.Five(0, -1)
	}
}

// FuzzBytes: whatever the bytes are, Check accepts exactly what Add returns.
func FuzzBytes(f *testing.F) {
	for _, b := range sampleBytes()[:9] {
		f.Add(b)
		f.Add(checks.Add(b))
	}
	f.Fuzz(func(t *testing.T, b []byte) {
		expectSixteen(t, b)
		got, e := checks.Check(b)
		if e == api.OK && !bytes.Equal(checks.Add(got), b) {
			t.Errorf("Check of %x = %x, which Add does not return", b, got)
		}
		if e != api.OK && got != nil {
			t.Errorf("Check of %x = %x, %d", b, got, e)
		}
	})
}
