package packets_test

import (
	"bytes"
	"slices"
	"testing"

	"plugboard/api"
	"plugboard/levels"
	"plugboard/packets"
)

// TestP3_5Inverse: Decode inverts Encode, for all packets without data, and for
// some with data.
func TestP3_5Inverse(t *testing.T) {
	check := func(p packets.Packet) {
		if got, e := packets.Decode(mustEncode(t, p)); e != api.OK || !equal(got, p) {
			t.Errorf("Decode of what Encode returns for %s = %s, %d", shown(p), shown(got), e)
		}
	}
	eachToken(check)
	eachFrame(check)
	eachSplit(check)
	eachOther(check)
}

// TestP3_5OnlyEncoded: of all bytes, Decode accepts only what Encode returns: of
// up to three bytes, and of all splits.
func TestP3_5OnlyEncoded(t *testing.T) {
	accepted := 0
	check := func(b []byte) {
		p, e := packets.Decode(b)
		if e != api.OK {
			return
		}
		accepted++
		if again, e := packets.Encode(p); e != api.OK || !bytes.Equal(again, b) {
			t.Errorf("Decode accepts %x as %s, whose bytes are %x", b, shown(p), again)
		}
	}
	expect := func(name string, want int) {
		if accepted != want {
			t.Errorf("Decode accepts %d times %s; expected %d", accepted, name, want)
		}
		accepted = 0
	}
	for x := range 1 << 8 {
		check([]byte{byte(x)})
	}
	expect("one byte", 4)
	for x := range 1 << 16 {
		check([]byte{byte(x), byte(x >> 8)})
	}
	expect("two bytes", 0)
	for x := range 1 << 24 {
		check([]byte{byte(x), byte(x >> 8), byte(x >> 16)})
	}
	expect("three bytes", 4*2048+2)
	for x := range 1 << 24 {
		check([]byte{120, byte(x), byte(x >> 8), byte(x >> 16)})
	}
	expect("a split", 1<<18)
}

// TestP3_5Texts: different packets have different texts, equal ones the same.
func TestP3_5Texts(t *testing.T) {
	owners := map[string]packets.Packet{}
	check := func(p packets.Packet) {
		text := packets.Text(p)
		owner, taken := owners[text]
		if text == "" || taken && !equal(owner, p) {
			t.Errorf("Text of %s and of %s is %q", shown(p), shown(owner), text)
		}
		owners[text] = p
		p.Data = slices.Clone(p.Data)
		if again := packets.Text(p); again != text {
			t.Errorf("Text of %s is %q and %q", shown(p), text, again)
		}
	}
	eachToken(check)
	eachFrame(check)
	eachSplit(check)
	eachOther(check)
	for _, pid := range datas() {
		for x := range 1 << 16 {
			check(data(pid, []byte{byte(x), byte(x >> 8)}))
		}
	}
	if packets.Text(data(api.Data0, nil)) != packets.Text(data(api.Data0, []byte{})) {
		t.Error("Text tells nil from no data")
	}
}

// TestP3_5OneStateChanged: a packet one of whose states has become another one is
// refused. The bits that are stuffed matter here: one that is lost, and another
// that comes in, change two bits of the packet that are far apart.
func TestP3_5OneStateChanged(t *testing.T) {
	check := func(p packets.Packet) {
		l := mustSend(t, p)
		step := 1 + len(l)/2000 // not each place of the longest packets, which would take long
		for i := 0; i < len(l); i += step {
			right := l[i]
			for _, s := range []levels.State{levels.J, levels.K, levels.Zero, 3, 255} {
				if s == right {
					continue
				}
				l[i] = s
				if got, e := packets.Receive(l); e == api.OK || !none(got) {
					t.Errorf("%s, state %d of which is %d, is received as %s, %d", shown(p), i, s, shown(got), e)
				}
			}
			l[i] = right
		}
	}
	eachToken(check)
	eachFrame(check)
	eachOther(check)
	place := 0
	eachSplit(func(p packets.Packet) {
		if place++; place%23 == 0 {
			check(p)
		}
	})
}
