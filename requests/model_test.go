package requests_test

import (
	"fmt"
	"regexp"
	"slices"
	"strconv"
	"testing"

	"plugboard/api"
	"plugboard/requests"
)

// The model is the chapter, written down a second time: numbers instead of names, and
// a regular expression for texts.

// span are the numbers from lo to hi.
type span struct{ lo, hi int }

// line is a line of the table, for one code and one receiver. Its kind is the field
// Type.
type line struct {
	code, kind               uint8
	values, indices, lengths []span
}

var (
	only0     = []span{{0, 0}}
	only1     = []span{{1, 1}}
	only2     = []span{{2, 2}}
	to15      = []span{{0, 15}}
	addresses = []span{{0, 15}, {128, 143}}
	all       = []span{{0, 65535}}
)

// table is the table of the chapter.
var table = []line{
	{0, 0x80, only0, only0, only2},
	{0, 0x81, only0, to15, only2},
	{0, 0x82, only0, addresses, only2},
	{1, 0x00, only1, only0, only0},
	{3, 0x00, only1, only0, only0},
	{1, 0x02, only0, addresses, only0},
	{3, 0x02, only0, addresses, only0},
	{5, 0x00, []span{{0, 127}}, only0, only0},
	{6, 0x80, all, all, all},
	{6, 0x81, all, all, all},
	{7, 0x00, all, all, all},
	{8, 0x80, only0, only0, only1},
	{9, 0x00, []span{{0, 255}}, only0, only0},
	{10, 0x81, only0, to15, only1},
	{11, 0x01, to15, to15, only0},
	{12, 0x82, only0, addresses, only2},
}

// names are the names of the codes of the table.
var names = map[uint8]string{
	0: "GetStatus", 1: "ClearFeature", 3: "SetFeature", 5: "SetAddress", 6: "GetDescriptor", 7: "SetDescriptor",
	8: "GetConfiguration", 9: "SetConfiguration", 10: "GetInterface", 11: "SetInterface", 12: "SynchFrame",
}

// within reports whether a number is in one of some spans.
func within(n uint16, l []span) bool {
	return slices.ContainsFunc(l, func(s span) bool { return s.lo <= int(n) && int(n) <= s.hi })
}

// modelCheck returns the error of a request.
func modelCheck(r api.Request) api.Errno {
	known := false
	for _, l := range table {
		known = known || l.code == r.Code
		if l.kind == r.Type && l.code == r.Code && within(r.Value, l.values) && within(r.Index, l.indices) && within(r.Length, l.lengths) {
			return 0
		}
	}
	switch {
	case r.Type/32%4 != 0:
		return 1
	case !known:
		return 7
	}
	return 4
}

// modelText returns the text of a request.
func modelText(r api.Request) string {
	direction := [...]string{"out", "in"}[r.Type/128]
	kind := [...]string{"standard", "class", "vendor", "reserved"}[r.Type/32%4]
	receiver := fmt.Sprint(r.Type % 32)
	if r.Type%32 < 4 {
		receiver = [...]string{"device", "interface", "endpoint", "other"}[r.Type%32]
	}
	code := fmt.Sprint(r.Code)
	if name, ok := names[r.Code]; ok && kind == "standard" {
		code = name
	}
	return fmt.Sprintf("%s %s %s %s %d %d %d", direction, kind, receiver, code, r.Value, r.Index, r.Length)
}

// textForm is the form of all texts, but for the bounds of numbers, and for where the
// names of codes belong.
var textForm = regexp.MustCompile(`\A(in|out) (standard|class|vendor|reserved) (device|interface|endpoint|other|[4-9]|1[0-9]|2[0-9]|3[01]) ` +
	`([A-Z][A-Za-z]+|0|[1-9][0-9]{0,2}) (0|[1-9][0-9]{0,4}) (0|[1-9][0-9]{0,4}) (0|[1-9][0-9]{0,4})\z`)

// typeWords are what words add to the field Type.
var typeWords = map[string]int{
	"in": 128, "out": 0, "standard": 0, "class": 32, "vendor": 64, "reserved": 96, "device": 0, "interface": 1, "endpoint": 2, "other": 3,
}

// modelParse returns the request with a text.
func modelParse(s string) (api.Request, api.Errno) {
	words := textForm.FindStringSubmatch(s)
	if words == nil {
		return api.Request{}, 4
	}
	kind, named := typeWords[words[1]]+typeWords[words[2]]+typeWords[words[3]], words[2] == "standard"
	if n, err := strconv.Atoi(words[3]); err == nil {
		kind += n
	}
	code := -1
	for c, name := range names {
		if named && name == words[4] {
			code = int(c)
		}
	}
	if n, err := strconv.Atoi(words[4]); err == nil && n < 256 && (!named || names[uint8(n)] == "") {
		code = n
	}
	var fields [3]int
	for i := range fields {
		fields[i], _ = strconv.Atoi(words[5+i])
	}
	if code < 0 || max(fields[0], fields[1], fields[2]) > 65535 {
		return api.Request{}, 4
	}
	return api.Request{Type: uint8(kind), Code: uint8(code), Value: uint16(fields[0]), Index: uint16(fields[1]), Length: uint16(fields[2])}, 0
}

// TestConstants: the constants are those that the chapter lists.
func TestConstants(t *testing.T) {
	got := []int{
		requests.Standard, requests.Class, requests.Vendor,
		requests.Device, requests.Interface, requests.Endpoint, requests.Other,
		requests.GetStatus, requests.ClearFeature, requests.SetFeature, requests.SetAddress, requests.GetDescriptor, requests.SetDescriptor,
		requests.GetConfiguration, requests.SetConfiguration, requests.GetInterface, requests.SetInterface, requests.SynchFrame,
		requests.Halt, requests.Wakeup,
	}
	if want := []int{0, 1, 2, 0, 1, 2, 3, 0, 1, 3, 5, 6, 7, 8, 9, 10, 11, 12, 0, 1}; !slices.Equal(got, want) {
		t.Errorf("the constants are %v; expected %v", got, want)
	}
}
