package levels_test

import (
	"bytes"
	"slices"
	"testing"

	"plugboard/api"
	"plugboard/levels"
)

// TestR1ArgumentsStay: no function changes its argument, or beyond it.
func TestR1ArgumentsStay(t *testing.T) {
	room := func(b []byte) []byte { return append(make([]byte, 0, len(b)+64), b...) }
	for name, f := range map[string]func([]byte){
		"Bits":    func(b []byte) { levels.Bits(b) },
		"Bytes":   func(b []byte) { levels.Bytes(b) },
		"Stuff":   func(b []byte) { levels.Stuff(b) },
		"Unstuff": func(b []byte) { levels.Unstuff(b) },
		"Encode":  func(b []byte) { levels.Encode(b) },
		"Send":    func(b []byte) { levels.Send(b) },
	} {
		for _, s := range []string{"", "00000001", "1111110100", "1111111111111111", "0101010"} {
			b := room(bitsOf(s))
			f(b)
			if textOf(b) != s || !bytes.Equal(b[len(b):cap(b)], make([]byte, cap(b)-len(b))) {
				t.Errorf("%s changes %s to %v", name, s, b[:cap(b)])
			}
		}
	}
	for name, f := range map[string]func([]levels.State){
		"Decode":  func(l []levels.State) { levels.Decode(l) },
		"Receive": func(l []levels.State) { levels.Receive(l) },
		"Listen":  func(l []levels.State) { levels.Listen(l) },
	} {
		for _, s := range []string{"", "JKJK", "JJ" + first + second, first, "KZ?ZJ"} {
			l := append(make([]levels.State, 0, len(s)+64), lineOf(s)...)
			f(l)
			if !slices.Equal(l, lineOf(s)) || !slices.Equal(l[len(l):cap(l)], make([]levels.State, cap(l)-len(l))) {
				t.Errorf("%s changes %s to %v", name, s, l[:cap(l)])
			}
		}
	}
}

// TestR3NilIsEmpty: a nil slice and an empty one are the same argument.
func TestR3NilIsEmpty(t *testing.T) {
	for _, b := range [][]byte{nil, {}} {
		if got := levels.Bits(b); len(got) != 0 || cap(got) != 0 {
			t.Errorf("Bits = %v", got)
		}
		for name, f := range map[string]func([]byte) ([]byte, api.Errno){
			"Bytes": levels.Bytes, "Stuff": levels.Stuff, "Unstuff": levels.Unstuff,
		} {
			if got, e := f(b); e != api.OK || len(got) != 0 || cap(got) != 0 {
				t.Errorf("%s = %v, %d", name, got, e)
			}
		}
		if got, e := levels.Encode(b); e != api.OK || len(got) != 0 || cap(got) != 0 {
			t.Errorf("Encode = %v, %d", got, e)
		}
		if got, e := levels.Send(b); e != api.ErrArg || got != nil {
			t.Errorf("Send = %v, %d", got, e)
		}
	}
	for _, l := range [][]levels.State{nil, {}} {
		if got, e := levels.Decode(l); e != api.OK || len(got) != 0 || cap(got) != 0 {
			t.Errorf("Decode = %v, %d", got, e)
		}
		if got, e := levels.Receive(l); e != api.ErrForm || got != nil {
			t.Errorf("Receive = %v, %d", got, e)
		}
		if got, damaged := levels.Listen(l); len(got) != 0 || cap(got) != 0 || damaged != 0 {
			t.Errorf("Listen = %v, %d", got, damaged)
		}
	}
}

// TestR4NewMemory: what is returned can be changed without a trace: the same
// call returns the same again.
func TestR4NewMemory(t *testing.T) {
	bits := bitsOf("01001011")
	for name, f := range map[string]func() []byte{
		"Bits":    func() []byte { return levels.Bits(bits) },
		"Bytes":   func() []byte { b, _ := levels.Bytes(bits); return b },
		"Stuff":   func() []byte { b, _ := levels.Stuff(bits); return b },
		"Unstuff": func() []byte { b, _ := levels.Unstuff(bits); return b },
		"Decode":  func() []byte { b, _ := levels.Decode(lineOf("KJJK")); return b },
		"Receive": func() []byte { b, _ := levels.Receive(lineOf(first)); return b },
	} {
		got := f()
		want := bytes.Clone(got)
		if len(got) == 0 || !tight(got) {
			t.Errorf("%s: length %d, capacity %d", name, len(got), cap(got))
		}
		for i := range got {
			got[i] += 7
		}
		if textOf(bits) != "01001011" || !bytes.Equal(f(), want) {
			t.Errorf("%s shares its result", name)
		}
	}
}

// TestR4StatesAreNew: the same of what is returned as states.
func TestR4StatesAreNew(t *testing.T) {
	bits := bitsOf("01001011")
	for name, f := range map[string]func([]byte) ([]levels.State, api.Errno){
		"Encode": levels.Encode, "Send": levels.Send,
	} {
		got, _ := f(bits)
		want := slices.Clone(got)
		if len(got) == 0 || !tight(got) {
			t.Errorf("%s: length %d, capacity %d", name, len(got), cap(got))
		}
		for i := range got {
			got[i] = levels.Zero
		}
		if again, _ := f(bits); !slices.Equal(again, want) {
			t.Errorf("%s shares its result", name)
		}
	}
}

// TestR4ListenSharesNothing: each packet has memory of its own.
func TestR4ListenSharesNothing(t *testing.T) {
	line := lineOf(first + second + first)
	packets, _ := levels.Listen(line)
	if len(packets) != 3 || !tight(packets) {
		t.Fatalf("Listen: %d packets, capacity %d", len(packets), cap(packets))
	}
	for i, p := range packets {
		if !tight(p) {
			t.Errorf("packet %d: capacity %d", i, cap(p))
		}
		p[0] = 99
		if i+1 < len(packets) && packets[i+1][0] == 99 {
			t.Errorf("packets %d and %d share memory", i, i+1)
		}
	}
	if again, _ := levels.Listen(line); !samePackets(again, [][]byte{{210}, {3}, {210}}) {
		t.Errorf("Listen, again: %x", again)
	}
}

// FuzzLine: whatever is on the line, nothing panics, and what is received is
// what would be sent.
func FuzzLine(f *testing.F) {
	for _, s := range []string{"", "J", first, "JJ" + first + second, first[:16] + second, "KZ?J"} {
		f.Add(s)
	}
	f.Fuzz(func(t *testing.T, s string) {
		line := lineOf(s)
		packets, damaged := levels.Listen(line)
		if damaged < 0 || !tight(packets) {
			t.Errorf("Listen: %d damaged, capacity %d of %d", damaged, cap(packets), len(packets))
		}
		for _, p := range packets {
			if back, e := levels.Receive(mustSend(t, p)); e != api.OK || !bytes.Equal(back, p) {
				t.Errorf("Receive of what Send returns for %x = %x, %d", p, back, e)
			}
		}
	})
}
