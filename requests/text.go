package requests

import (
	"strconv"
	"strings"

	"plugboard/api"
)

// textWords is the number of words of a text.
const textWords = 7

// The words for the directions of data.
const (
	inWord  = "in"
	outWord = "out"
)

// kindNames are the names of the kinds.
var kindNames = [4]string{Standard: "standard", Class: "class", Vendor: "vendor", 3: "reserved"}

// receiverNames are the names of the lowest receivers; the others have none.
var receiverNames = [4]string{Device: "device", Interface: "interface", Endpoint: "endpoint", Other: "other"}

// codeNames are the names of the codes of standard requests; those between them have
// none.
var codeNames = [13]string{
	GetStatus: "GetStatus", ClearFeature: "ClearFeature", SetFeature: "SetFeature", SetAddress: "SetAddress",
	GetDescriptor: "GetDescriptor", SetDescriptor: "SetDescriptor",
	GetConfiguration: "GetConfiguration", SetConfiguration: "SetConfiguration",
	GetInterface: "GetInterface", SetInterface: "SetInterface", SynchFrame: "SynchFrame",
}

// nameOf returns the name of the code of a standard request, or an empty text.
func nameOf(code uint8) string {
	if int(code) >= len(codeNames) {
		return ""
	}
	return codeNames[code]
}

// codes returns the codes by their names.
func codes() map[string]uint8 {
	out := map[string]uint8{}
	for code, name := range codeNames {
		if name != "" {
			out[name] = uint8(code)
		}
	}
	return out
}

// Text formats a request. (P12.5)
func Text(r api.Request) string {
	words := [textWords]string{
		directionWord(In(r)), kindWord(Kind(r)), receiverWord(Receiver(r)), codeWord(r),
		decimal(r.Value), decimal(r.Index), decimal(r.Length),
	}
	return strings.Join(words[:], " ")
}

// directionWord returns the word for a direction.
func directionWord(in bool) string {
	if in {
		return inWord
	}
	return outWord
}

// kindWord returns the name of a kind.
func kindWord(kind uint8) string { return kindNames[kind] }

// receiverWord returns the name of a receiver, or its number if it has none.
func receiverWord(receiver uint8) string {
	if int(receiver) < len(receiverNames) {
		return receiverNames[receiver]
	}
	return decimal(uint16(receiver))
}

// codeWord returns the name of the code of a request, or its number if it has none.
func codeWord(r api.Request) string {
	if name := nameOf(r.Code); name != "" && Kind(r) == Standard {
		return name
	}
	return decimal(uint16(r.Code))
}

// decimal returns the digits of a number.
func decimal(n uint16) string { return strconv.Itoa(int(n)) }

// Parse returns the request with a text. (P12.5)
func Parse(s string) (api.Request, api.Errno) {
	// One word more than a text has is enough to see that there are too many.
	words := strings.SplitN(s, " ", textWords+1)
	if len(words) != textWords {
		return api.Request{}, api.ErrForm
	}
	r := understood(words)
	// A word that is none was understood as some number, and a number may have been
	// written in another way, but then the request has another text.
	if Text(r) != s {
		return api.Request{}, api.ErrForm
	}
	return r, api.OK
}

// understood returns the request with the words of a text. Words that are none are
// understood as any numbers.
func understood(words []string) api.Request {
	in, kind, receiver := words[0] == inWord, find(words[1], maxKind, kindWord), find(words[2], maxReceiver, receiverWord)
	code, named := codes()[words[3]]
	if !named {
		code = uint8(number(words[3]))
	}
	return api.Request{
		Type: typeOf(in, kind, receiver), Code: code,
		Value: number(words[4]), Index: number(words[5]), Length: number(words[6]),
	}
}

// find returns the number with this word among those up to the greatest one, or 0 if
// there is none.
func find(word string, greatest uint8, wordOf func(n uint8) string) uint8 {
	for n := range greatest + 1 {
		if wordOf(n) == word {
			return n
		}
	}
	return 0
}

// number returns the number with these digits.
func number(digits string) uint16 {
	// What has an error, or is too great, has other digits than the number returned.
	n, _ := strconv.ParseUint(digits, 10, 16)
	return uint16(n)
}
