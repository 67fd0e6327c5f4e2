package requests_test

import (
	"strings"
	"testing"

	"plugboard/api"
	"plugboard/requests"
)

// texts are requests, and their texts.
var texts = []struct {
	r    api.Request
	text string
}{
	{requests.Descriptor(1, 0, 0, 18), "in standard device GetDescriptor 256 0 18"},
	{api.Request{Type: 163, Index: 1, Length: 4}, "in class other 0 0 1 4"},
	{api.Request{}, "out standard device GetStatus 0 0 0"},
	{api.Request{Type: 1, Code: 1, Value: 1, Index: 2, Length: 3}, "out standard interface ClearFeature 1 2 3"},
	{api.Request{Type: 130, Code: 3, Value: 10, Index: 20, Length: 30}, "in standard endpoint SetFeature 10 20 30"},
	{api.Request{Type: 3, Code: 5, Value: 100, Index: 200, Length: 300}, "out standard other SetAddress 100 200 300"},
	{api.Request{Type: 4, Code: 7, Value: 65535, Index: 65535, Length: 65535}, "out standard 4 SetDescriptor 65535 65535 65535"},
	{api.Request{Type: 159, Code: 8, Length: 1}, "in standard 31 GetConfiguration 0 0 1"},
	{api.Request{Code: 9, Value: 255}, "out standard device SetConfiguration 255 0 0"},
	{api.Request{Type: 138, Code: 10, Value: 1000}, "in standard 10 GetInterface 1000 0 0"},
	{api.Request{Type: 1, Code: 11, Index: 10000}, "out standard interface SetInterface 0 10000 0"},
	{api.Request{Type: 130, Code: 12, Length: 9}, "in standard endpoint SynchFrame 0 0 9"},
	{api.Request{Code: 2}, "out standard device 2 0 0 0"},
	{api.Request{Code: 4}, "out standard device 4 0 0 0"},
	{api.Request{Code: 13}, "out standard device 13 0 0 0"},
	{api.Request{Code: 255}, "out standard device 255 0 0 0"},
	{api.Request{Type: 32, Code: 6}, "out class device 6 0 0 0"},
	{api.Request{Type: 65, Code: 12}, "out vendor interface 12 0 0 0"},
	{api.Request{Type: 98, Code: 1}, "out reserved endpoint 1 0 0 0"},
	{api.Request{Type: 255, Code: 255, Value: 65535, Index: 65535, Length: 65535}, "in reserved 31 255 65535 65535 65535"},
}

// TestP12_5Examples: requests and their texts, both ways.
func TestP12_5Examples(t *testing.T) {
	for _, c := range texts {
		if got := requests.Text(c.r); got != c.text {
			t.Errorf("Text of %+v = %q; expected %q", c.r, got, c.text)
		}
		r, e := requests.Parse(c.text)
		expectRequest(t, "Parse of "+c.text, r, e, c.r, api.OK)
	}
}

// expectText compares the text of a request with that of the model, and parses it.
func expectText(t *testing.T, r api.Request) {
	t.Helper()
	text, want := requests.Text(r), modelText(r)
	if text != want {
		t.Errorf("Text of %+v = %q; expected %q", r, text, want)
	}
	back, e := requests.Parse(text)
	expectRequest(t, "Parse of "+text, back, e, r, api.OK)
}

// TestP12_5Codes: every Type with every Code.
func TestP12_5Codes(t *testing.T) {
	for kind := range 256 {
		for code := range 256 {
			expectText(t, api.Request{Type: uint8(kind), Code: uint8(code), Value: uint16(code), Index: uint16(kind), Length: 65535})
		}
	}
}

// TestP12_5Numbers: every Value, Index and Length.
func TestP12_5Numbers(t *testing.T) {
	for n := range maxWord + 1 {
		w := uint16(n)
		expectText(t, api.Request{Value: w, Index: 1, Length: 2})
		expectText(t, api.Request{Type: 33, Value: 1, Index: w, Length: ^w})
	}
}

// TestP12_5Samples: the texts of all sorts of requests.
func TestP12_5Samples(t *testing.T) {
	for _, r := range samples() {
		expectText(t, r)
	}
}

// someWords are words of each place of a text, also in other spellings, and words that
// belong nowhere.
func someWords() []string {
	out := []string{
		"in", "out", "IN", "Out", "i", "inn", "ou", "outin", "standard", "class", "vendor", "reserved", "Standard", "CLASS", "stan", "standards", "none",
		"device", "interface", "endpoint", "other", "Device", "OTHER", "devices", "hub", "host",
		"", "-", "+", ".", ",", "x", "0x1", "0x10", "1e1", "1_0", "0b1", "0o7", "1.0", "1,0", "½", "①", "١", "１", "in\x00", "\x00", "\xff", "true", "nil",
		"in\t", "\tin", "0\n", "\n0", "in\u00a0", "\u2003", "\ufeffin",
	}
	for _, name := range names {
		out = append(out, name, strings.ToLower(name), strings.ToUpper(name), name+"s", name[1:], name[:len(name)-1], strings.ToLower(name[:1])+name[1:])
	}
	for n := range 261 {
		digits := decimal(n)
		out = append(out, digits, "0"+digits, "+"+digits, "-"+digits)
	}
	for _, n := range []int{300, 511, 512, 999, 1000, 4660, 9999, 10000, 32767, 32768, 65279, 65280, 65534, 65535} {
		digits := decimal(n)
		out = append(out, digits, "0"+digits, "00000"+digits, "+"+digits, "-"+digits, digits+".", digits+"0")
	}
	return append(append(out, extremes...), "00", "000", "-0", "+0", "--1", strings.Repeat("0", 1000), strings.Repeat("0", 1000)+"1", strings.Repeat("9", 1000))
}

// TestP12_5Words: each place of texts with each word, and with two of them at once.
func TestP12_5Words(t *testing.T) {
	words := someWords()
	for _, text := range sampleTexts() {
		for place := range 7 {
			for _, word := range words {
				expectParse(t, with(text, place, word))
			}
		}
	}
	for i, a := range words {
		for _, b := range words[i%7*5 : i%7*5+40] {
			expectParse(t, with(with("in standard device 2 0 0 0", 2, a), 3, b))
			expectParse(t, with(with("out class 4 3 0 0 0", 1, a), 3, b))
			expectParse(t, with(with("out vendor other 3 1 2 3", 0, b), 5, a))
		}
	}
}

// TestP12_5Names: a code of the table has its name in texts of the kind Standard, and
// its number in all others; it cannot be the other way around.
func TestP12_5Names(t *testing.T) {
	for code := range 256 {
		name, named := names[uint8(code)]
		for i, kind := range []string{"standard", "class", "vendor", "reserved"} {
			standard := kind == "standard"
			want := api.Request{Type: 128 + 32*uint8(i) + 1, Code: uint8(code), Value: 1, Index: 2, Length: 3}
			byNumber := "in " + kind + " interface " + decimal(code) + " 1 2 3"
			if named && standard {
				expectNone(t, byNumber)
			} else {
				r, e := requests.Parse(byNumber)
				expectRequest(t, "Parse of "+byNumber, r, e, want, api.OK)
			}
			if !named {
				continue
			}
			byName := "in " + kind + " interface " + name + " 1 2 3"
			if standard {
				r, e := requests.Parse(byName)
				expectRequest(t, "Parse of "+byName, r, e, want, api.OK)
			} else {
				expectNone(t, byName)
			}
			expectNone(t, strings.ToLower(byName))
			expectNone(t, strings.ToUpper(byName))
		}
	}
}

// TestP12_5Receivers: receivers with a name have no number, and receivers with a number
// no name.
func TestP12_5Receivers(t *testing.T) {
	for i, name := range []string{"device", "interface", "endpoint", "other"} {
		text := "out class " + name + " 1 2 3 4"
		r, e := requests.Parse(text)
		expectRequest(t, "Parse of "+text, r, e, api.Request{Type: 32 + uint8(i), Code: 1, Value: 2, Index: 3, Length: 4}, api.OK)
	}
	for n := range 1000 {
		text := "out class " + decimal(n) + " 1 2 3 4"
		if n < 4 || n > 31 {
			expectNone(t, text)
			continue
		}
		r, e := requests.Parse(text)
		expectRequest(t, "Parse of "+text, r, e, api.Request{Type: 32 + uint8(n), Code: 1, Value: 2, Index: 3, Length: 4}, api.OK)
	}
	for _, digits := range extremes {
		expectNone(t, "out class "+digits+" 1 2 3 4")
	}
}

// TestP12_5WrongNumbers: numbers with leading zeros, with signs, without digits, one
// too great and far too great, in each place.
func TestP12_5WrongNumbers(t *testing.T) {
	wrong := append([]string{"00", "01", "007", "000000", "+1", "-1", "+0", "-0", "", "a", "1a", "a1", "0x1", "1_0", "1.0", "65536", "65545", "٣"}, extremes...)
	for place := 3; place < 7; place++ {
		for _, word := range wrong {
			expectNone(t, with("in vendor endpoint 1 2 3 4", place, word))
			expectNone(t, with("in standard endpoint 2 2 3 4", place, word))
		}
	}
	for n := 256; n < 1100; n++ {
		expectNone(t, with("in vendor endpoint 1 2 3 4", 3, decimal(n)))
		expectNone(t, with("in standard endpoint 2 2 3 4", 3, decimal(n)))
	}
	for n := 65536; n < 140000; n += 7 {
		expectNone(t, with("in vendor endpoint 1 2 3 4", 4+n%3, decimal(n)))
	}
}
