package levels_test

import (
	"bytes"
	"slices"
	"strings"
	"testing"

	"plugboard/api"
	"plugboard/levels"
)

// TestP1_4Send: the states of packets, written out.
func TestP1_4Send(t *testing.T) {
	for _, c := range []struct {
		packet []byte
		states string
	}{
		{[]byte{210}, "KJKJKJKK JJKJJKKK ZZJ"},
		{[]byte{0}, "KJKJKJKK JKJKJKJK ZZJ"},
		// The last bit of the sync is the first of six bits 1.
		{[]byte{0x1f}, "KJKJKJKK KKKKK J KJK ZZJ"},
		{[]byte{0xff}, "KJKJKJKK KKKKK J JJJ ZZJ"},
		// The bits end with six bits 1.
		{[]byte{0xfc}, "KJKJKJKK JK KKKKKK J ZZJ"},
		// The six bits 1 belong to two bytes.
		{[]byte{0xe0, 0x07}, "KJKJKJKK JKJKJ JJJJJJ K JKJKJ ZZJ"},
	} {
		l, e := levels.Send(c.packet)
		if want := lineOf(c.states); e != api.OK || !slices.Equal(l, want) || !tight(l) {
			t.Errorf("Send of %x = %s, %d, capacity %d; expected %s", c.packet, shown(l), e, cap(l), shown(want))
		}
		b, e := levels.Receive(lineOf(c.states))
		if e != api.OK || !bytes.Equal(b, c.packet) || !tight(b) {
			t.Errorf("Receive of %s = %x, %d, capacity %d", c.states, b, e, cap(b))
		}
	}
}

// TestP1_4SendLimits: no bytes, as many as there may be, and more.
func TestP1_4SendLimits(t *testing.T) {
	for n, want := range map[int]api.Errno{
		0: api.ErrArg, 1: api.OK, 2: api.OK, 1026: api.OK, 1027: api.OK,
		1028: api.ErrLimit, 2054: api.ErrLimit, 65536: api.ErrLimit,
	} {
		for _, fill := range []byte{0, 0xff} {
			l, e := levels.Send(bytes.Repeat([]byte{fill}, n))
			if e != want || (l == nil) != (want != api.OK) {
				t.Errorf("Send of %d bytes %d: %d states, error %d; expected %d", n, fill, len(l), e, want)
			}
		}
	}
	if l, e := levels.Send(nil); e != api.ErrArg || l != nil {
		t.Errorf("Send of nil = %v, %d", l, e)
	}
}

// TestP1_4ReceiveErrors: each error, and which one comes first.
func TestP1_4ReceiveErrors(t *testing.T) {
	long := strings.Repeat("0", 8*levels.MaxPacket)
	for _, c := range []struct {
		name string
		line []levels.State
		want api.Errno
	}{
		{"nothing", nil, api.ErrForm},
		{"two states", lineOf("ZJ"), api.ErrForm},
		{"no end", lineOf("KJ"), api.ErrForm},
		{"the end alone", lineOf("ZZJ"), api.ErrForm},
		{"one Zero", lineOf("KJKJKJKK JJKJJKKK ZJ"), api.ErrForm},
		{"no J at the end", lineOf("KJKJKJKK JJKJJKKK ZZ"), api.ErrForm},
		{"K at the end", lineOf("KJKJKJKK JJKJJKKK ZZK"), api.ErrForm},
		{"Zero at the end", lineOf("KJKJKJKK JJKJJKKK ZZZ"), api.ErrForm},
		{"J for the first Zero", lineOf("KJKJKJKK JJKJJKKK JZJ"), api.ErrForm},
		{"J for the second Zero", lineOf("KJKJKJKK JJKJJKKK ZJJ"), api.ErrForm},
		{"three times Zero", lineOf("KJKJKJKK JJKJJKKK ZZZJ"), api.ErrForm},
		{"a state behind the end", lineOf("KJKJKJKK JJKJJKKK ZZJJ"), api.ErrForm},
		{"a state in front of the sync", lineOf("J KJKJKJKK JJKJJKKK ZZJ"), api.ErrForm},
		{"Zero within the bytes", lineOf("KJKJKJKK JJKZJKKK ZZJ"), api.ErrForm},
		{"Zero within the sync", lineOf("KJKZKJKK JJKJJKKK ZZJ"), api.ErrForm},
		{"another state", lineOf("KJKJKJKK JJK?JKKK ZZJ"), api.ErrForm},
		{"another state at the end", lineOf("KJKJKJKK JJKJJKKK ZZ?"), api.ErrForm},
		{"another sync", lineOf("JJKJKJKK JJKJJKKK ZZJ"), api.ErrForm},
		{"a short sync", framed("0000001"), api.ErrForm},
		{"a long sync", framed("0" + sync), api.ErrForm},
		{"the other last bit of the sync", framed("00000000" + "00000000"), api.ErrForm},
		{"part of the sync", framed("0000"), api.ErrForm},
		{"seven bits 1", framed(sync + "0" + "1111111"), api.ErrForm},
		{"six bits 1 with the sync, and another one", framed(sync + "11111" + "1" + "00"), api.ErrForm},
		{"six bits 1 at the end", framed(sync + "00" + "111111"), api.ErrForm},
		{"form before width", framed("0000000" + "0"), api.ErrForm},
		{"stuffing before width", framed(sync + "111111" + "0"), api.ErrForm},
		{"width", framed(sync + "0000000"), api.ErrWidth},
		{"width of one bit", framed(sync + "0"), api.ErrWidth},
		{"width with a bit that was inserted", framed(sync + "11111" + "0" + "00"), api.ErrWidth},
		{"the bit that was inserted does not count", framed(sync + "11111" + "0" + "000"), api.OK},
		{"no bytes", framed(sync), api.ErrArg},
		{"the most bytes", framed(sync + long), api.OK},
		{"width before limit", framed(sync + long + "0"), api.ErrWidth},
		{"width before limit, by far", framed(sync + long + long + "0000000"), api.ErrWidth},
		{"limit", framed(sync + long + "00000000"), api.ErrLimit},
		{"limit, by far", framed(sync + long + long), api.ErrLimit},
		{"form before limit", framed(sync + long + "11111111"), api.ErrForm},
	} {
		b, e := levels.Receive(c.line)
		if e != c.want || (b == nil) != (c.want != api.OK) {
			t.Errorf("%s: %d bytes, error %d; expected %d", c.name, len(b), e, c.want)
		}
	}
}

// TestP1_6ReceiveInvertsSend: what was sent is received.
func TestP1_6ReceiveInvertsSend(t *testing.T) {
	packets := samplePackets()
	for x := range 65536 {
		packets = append(packets, []byte{byte(x), byte(x >> 8)})
	}
	for _, p := range packets {
		if b, e := levels.Receive(mustSend(t, p)); e != api.OK || !bytes.Equal(b, p) {
			t.Errorf("Receive of what Send returns for %x = %x, %d", p, b, e)
		}
	}
}

// TestP1_6ReceiveOnlySent: what Receive accepts, Send returns.
func TestP1_6ReceiveOnlySent(t *testing.T) {
	check := func(l []levels.State) {
		b, e := levels.Receive(l)
		if e != api.OK {
			return
		}
		if again, e := levels.Send(b); e != api.OK || !slices.Equal(again, l) {
			t.Errorf("Receive accepts %s as %x, whose states are %s", shown(l), b, shown(again))
		}
	}
	each("JKZ?", 7, func(s string) {
		check(lineOf(s))
		check(lineOf("KJKJKJKK JJKJ" + s))
		check(lineOf(s + "JJKJJKKK ZZJ"))
	})
	each("01", 15, func(s string) { check(framed(sync + s)) })
	each("01", 8, func(s string) { check(framed(s + "00100110")) })
}

// TestP1_6OneStateChanged: a packet one of whose states has become another one
// is not received as the packet that was sent.
func TestP1_6OneStateChanged(t *testing.T) {
	packets := samplePackets()
	for x := range 256 {
		packets = append(packets, []byte{byte(x)}, []byte{byte(x), 0xff, byte(x)})
	}
	for _, p := range packets {
		l := mustSend(t, p)
		step := 1 + len(l)/2000 // not each place of the longest packets, which would take long
		for i := 0; i < len(l); i += step {
			for _, s := range []levels.State{levels.J, levels.K, levels.Zero, 3, 255} {
				if s == l[i] {
					continue
				}
				changed := slices.Clone(l)
				changed[i] = s
				if b, e := levels.Receive(changed); e == api.OK && bytes.Equal(b, p) {
					t.Errorf("%x is received although state %d was %d", p, i, s)
				}
			}
		}
	}
}
