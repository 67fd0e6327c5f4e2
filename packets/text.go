package packets

import (
	"strconv"
	"strings"

	"plugboard/api"
)

// pidNames are the names of the identifiers; a number without a name is none.
var pidNames = [16]string{
	api.Out: "out", api.Ack: "ack", api.Data0: "data0", api.Sof: "sof", api.Nyet: "nyet", api.Split: "split",
	api.In: "in", api.Nak: "nak", api.Data1: "data1", api.Setup: "setup", api.Stall: "stall",
}

// stepNames are the names of a split that is not complete, and of one that is.
var stepNames = [2]string{"start", "complete"}

// kindNames are the names of the kinds.
var kindNames = [4]string{
	api.Control: "control", api.Isochronous: "isochronous", api.Bulk: "bulk", api.Interrupt: "interrupt",
}

// hexDigits are the digits of hexadecimal numbers.
const hexDigits = "0123456789abcdef"

// isIdentifier reports whether a number is one of the identifiers.
func isIdentifier(pid api.Pid) bool { return int(pid) < len(pidNames) && pidNames[pid] != "" }

// Text returns the text of a packet. (P3.3)
func Text(p Packet) string {
	if Check(p) != api.OK {
		return ""
	}
	return strings.Join(wordsOf(p), " ")
}

// wordsOf returns the words of a packet without an error.
func wordsOf(p Packet) []string {
	words := []string{pidNames[p.Pid]}
	switch p.Pid {
	case api.Out, api.In, api.Setup:
		return append(words, pair(p.Addr, p.Endp))
	case api.Sof:
		return append(words, strconv.Itoa(int(p.Frame)))
	case api.Split:
		return append(words, splitWords(p.Split)...)
	}
	if len(p.Data) > 0 {
		words = append(words, hexadecimal(p.Data))
	}
	return words
}

// splitWords returns the words behind the name of a split.
func splitWords(s Split) []string {
	words := []string{stepNames[bit(s.Complete)], pair(s.Hub, s.Port), kindNames[s.Kind]}
	if s.Low {
		words = append(words, "low")
	}
	return words
}

// pair returns two numbers in decimal, with a period in between.
func pair(a, b uint8) string { return strconv.Itoa(int(a)) + "." + strconv.Itoa(int(b)) }

// hexadecimal returns two digits for each byte.
func hexadecimal(b []byte) string {
	out := make([]byte, 0, 2*len(b))
	for _, value := range b {
		out = append(out, hexDigits[value>>4], hexDigits[value&15])
	}
	return string(out)
}
