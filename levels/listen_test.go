package levels_test

import (
	"bytes"
	"slices"
	"strings"
	"testing"

	"plugboard/api"
	"plugboard/levels"
)

// The states of the packets of the bytes 210 and 3, as texts.
const (
	first  = "KJKJKJKKJJKJJKKKZZJ"
	second = "KJKJKJKKKKJKJKJKZZJ"
)

// TestP1_5Listen: packets, damaged ones, and what is between them.
func TestP1_5Listen(t *testing.T) {
	for _, c := range []struct {
		name    string
		line    string
		packets string
		damaged int
	}{
		{"nothing", "", "", 0},
		{"J alone", "JJJJ", "", 0},
		{"a packet", first, "\xd2", 0},
		{"J in front", "JJJ" + first, "\xd2", 0},
		{"J behind", first + "JJJ", "\xd2", 0},
		{"packets that follow each other directly", first + second + first, "\xd2\x03\xd2", 0},
		{"packets in order", "J" + second + "JJ" + first + "J", "\x03\xd2", 0},
		{"a line that ends within a packet", "JJ" + first + "J" + first[:len(first)-1], "\xd2", 1},
		{"a line that ends behind one Zero", first[:len(first)-2], "", 1},
		{"a line that ends within the sync", first + "KJ", "\xd2", 1},
		{"a line that ends behind one state", "K", "", 1},
		{"a line that ends with Zero", "JZ", "", 1},
		{"a line that ends with another state", "J?", "", 1},
		{"Zero begins a packet", "ZJ" + first, "\xd2", 1},
		{"Zero begins a packet, K goes on with it", "ZKJKZJ" + first, "\xd2", 1},
		{"two times Zero", "ZZJ" + first, "\xd2", 1},
		{"another state begins a packet", "?ZJ" + first, "\xd2", 1},
		{"another state in front of a packet", "?" + first + second, "\x03", 1},
		{"another state within a packet", "KJ?JKJKKJJKJJKKKZZJ" + second, "\x03", 1},
		{"another state between Zero and J", "KZ?JKZJ" + first, "\xd2", 1},
		{"K between Zero and J", "KZKJJJZJ" + first, "\xd2", 1},
		{"J that does not follow Zero", "KJJJJJJJZJ" + first, "\xd2", 1},
		{"K in front of a packet", "K" + first + second, "\x03", 1},
		{"Zero within a packet, with J behind", "KJKJKJKKJJKJJZJKZZJ" + second, "\x03", 2},
		{"Zero within a packet, with K behind", "KJKJKJKKJJKJZKKKZZJ" + second, "\x03", 1},
		{"a packet without an end swallows the next one", first[:15] + second + first, "\xd2", 1},
		{"a packet with half an end swallows the next one", first[:17] + second + first, "\xd2", 1},
		{"a damaged packet between others", first + "KZJ" + second, "\xd2\x03", 1},
		{"damaged packets", "KZJKZJJJZZJ", "", 3},
		{"a sync without bytes", "KJKJKJKKZZJ" + first, "\xd2", 1},
	} {
		packets, damaged := levels.Listen(lineOf(c.line))
		if got := string(bytes.Join(packets, nil)); got != c.packets || len(packets) != len(c.packets) || damaged != c.damaged {
			t.Errorf("%s: %x, %d damaged; expected %x, %d", c.name, packets, damaged, c.packets, c.damaged)
		}
	}
}

// TestP1_5Example: the example of the chapter.
func TestP1_5Example(t *testing.T) {
	l := mustSend(t, []byte{210})
	line := slices.Concat([]levels.State{levels.J, levels.J}, l, []levels.State{levels.J}, l[:len(l)-1])
	packets, damaged := levels.Listen(line)
	if !samePackets(packets, [][]byte{{210}}) || damaged != 1 {
		t.Errorf("Listen = %v, %d", packets, damaged)
	}
}

// TestP1_5Limits: packets that are well formed, but too long, are damaged.
func TestP1_5Limits(t *testing.T) {
	most := strings.Repeat("0", 8*levels.MaxPacket)
	line := slices.Concat(framed(sync+most), framed(sync+most+"00000000"), framed(sync+"01001011"))
	packets, damaged := levels.Listen(line)
	if !samePackets(packets, [][]byte{make([]byte, levels.MaxPacket), {210}}) || damaged != 1 {
		t.Errorf("Listen: %d packets, %d damaged", len(packets), damaged)
	}
}

// TestP1_5AnyStates: Listen is what the chapter says, for all short lines. Each
// of them is split up by another reading of the words, from its end.
func TestP1_5AnyStates(t *testing.T) {
	each("JKZ?", 6, func(s string) {
		packets, damaged := levels.Listen(lineOf(s + first + s))
		wanted, bad := split(s + first + s)
		if !samePackets(packets, wanted) || damaged != bad || !tight(packets) {
			t.Errorf("Listen of %s = %x, %d; expected %x, %d", s+first+s, packets, damaged, wanted, bad)
		}
	})
}

// split returns the packets of a line, and the number of damaged ones, by its
// text.
func split(line string) (packets [][]byte, damaged int) {
	line = strings.TrimLeft(line, "J")
	if line == "" {
		return nil, 0
	}
	end := strings.Index(line, "ZJ")
	if end < 0 {
		return nil, 1
	}
	packets, damaged = split(line[end+2:])
	b, e := levels.Receive(lineOf(line[:end+2]))
	if e != api.OK {
		return packets, damaged + 1
	}
	return append([][]byte{b}, packets...), damaged
}

// lineWith returns a line with these packets, each with some J in front of it,
// and the place of the first state of each.
func lineWith(t *testing.T, packets [][]byte, gap int) (line []levels.State, starts []int) {
	for i, p := range packets {
		for range i * gap % 5 {
			line = append(line, levels.J)
		}
		starts = append(starts, len(line))
		line = append(line, mustSend(t, p)...)
	}
	return line, starts
}

// TestP1_6Line: Listen returns exactly the packets on a line.
func TestP1_6Line(t *testing.T) {
	for gap := range 5 {
		packets := samplePackets()
		line, _ := lineWith(t, packets, gap)
		if got, damaged := levels.Listen(line); !samePackets(got, packets) || damaged != 0 || !tight(got) {
			t.Errorf("gap %d: %d packets, %d damaged, capacity %d", gap, len(got), damaged, cap(got))
		}
	}
}

// TestP1_6LineDamaged: one state of one packet that becomes another one leaves
// the packets in front of it, and those behind the next one.
func TestP1_6LineDamaged(t *testing.T) {
	packets := [][]byte{{210}, {0xff, 0xff}, {3}, {0xfc}, {1, 2, 3}, {0x3f}}
	for gap := range 3 {
		line, starts := lineWith(t, packets, gap)
		for k, start := range starts {
			for i := range mustSend(t, packets[k]) {
				for _, s := range []levels.State{levels.J, levels.K, levels.Zero, 3, 255} {
					if line[start+i] == s {
						continue
					}
					changed := slices.Clone(line)
					changed[start+i] = s
					got, _ := levels.Listen(changed)
					front, behind := packets[:k], packets[min(k+2, len(packets)):]
					if len(got) < len(front)+len(behind) || !samePackets(got[:len(front)], front) ||
						!samePackets(got[len(got)-len(behind):], behind) {
						t.Errorf("state %d of packet %d is %d: %x", i, k, s, got)
					}
				}
			}
		}
	}
}
