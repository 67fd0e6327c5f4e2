package requests_test

import (
	"strings"
	"testing"

	"plugboard/api"
	"plugboard/requests"
)

// TestP12_5Spaces: spaces in front, behind, and doubled; and words that are not parted.
func TestP12_5Spaces(t *testing.T) {
	for _, text := range sampleTexts() {
		for _, wrong := range []string{" " + text, text + " ", "  " + text, text + "  ", " " + text + " ", strings.ReplaceAll(text, " ", "  ")} {
			expectNone(t, wrong)
		}
		for i, c := range text {
			if c == ' ' {
				expectNone(t, text[:i]+" "+text[i:])
				expectNone(t, text[:i]+text[i+1:])
			}
		}
	}
	for n := range 20 {
		expectNone(t, strings.Repeat(" ", n))
	}
}

// TestP12_5Count: too few words, and too many.
func TestP12_5Count(t *testing.T) {
	expectNone(t, "")
	for _, text := range sampleTexts() {
		words := strings.Split(text, " ")
		for i := range words {
			expectNone(t, strings.Join(words[:i], " "))
			expectNone(t, strings.Join(words[i:][1:], " "))
			expectNone(t, strings.Join(append(append([]string{}, words[:i]...), words[i+1:]...), " "))
			expectNone(t, strings.Join(append(append([]string{}, words[:i+1]...), words[i:]...), " "))
		}
		for _, more := range []string{"0", "1", "in", "x", ""} {
			expectNone(t, text+" "+more)
			expectNone(t, more+" "+text)
		}
		expectNone(t, text+" "+text)
		expectNone(t, text+strings.Repeat(" 0", 1000))
	}
}

// TestP12_5Capitals: capital letters where there are small ones, and the other way
// around.
func TestP12_5Capitals(t *testing.T) {
	for _, text := range sampleTexts() {
		expectNone(t, strings.ToUpper(text))
		if lower := strings.ToLower(text); lower != text {
			expectNone(t, lower)
		}
		for i := range len(text) {
			c := text[i]
			if 'a' <= c && c <= 'z' || 'A' <= c && c <= 'Z' {
				expectNone(t, text[:i]+string(rune(c^32))+text[i+1:])
			}
		}
	}
}

// TestP12_5White: white space other than single spaces, between words, in front and
// behind.
func TestP12_5White(t *testing.T) {
	for _, white := range []string{"\t", "\n", "\r", "\v", "\f", "\r\n", "\u00a0", "\u0085", "\u2002", "\u3000", "\u200b", "\ufeff", "\x00", "_", ","} {
		for _, text := range sampleTexts() {
			expectNone(t, strings.ReplaceAll(text, " ", white))
			expectNone(t, strings.Replace(text, " ", white, 1))
			expectNone(t, strings.Replace(text, " ", " "+white, 1))
			expectNone(t, white+text)
			expectNone(t, text+white)
			expectNone(t, text+" "+white)
		}
	}
}

// TestP12_5Bytes: bytes that are no text, and texts in which each character was changed,
// left out, or has another one in front of it.
func TestP12_5Bytes(t *testing.T) {
	for n := range 256 {
		expectNone(t, string([]byte{byte(n)}))
		expectNone(t, strings.Repeat(string([]byte{byte(n)}), 41))
		for _, text := range sampleTexts() {
			for i := range len(text) {
				expectParse(t, text[:i]+string([]byte{byte(n)})+text[i+1:])
				expectParse(t, text[:i]+string([]byte{byte(n)})+text[i:])
			}
			expectParse(t, text+string([]byte{byte(n)}))
		}
	}
	for _, text := range sampleTexts() {
		for i := range len(text) {
			for j := i; j <= len(text); j++ {
				expectParse(t, text[:i]+text[j:])
				expectParse(t, text[i:j])
			}
		}
	}
}

// TestP12_5Long: texts of many bytes end with ErrForm.
func TestP12_5Long(t *testing.T) {
	text := "in standard device GetDescriptor 256 0 18"
	for _, wrong := range []string{
		strings.Repeat(" ", 1<<20), strings.Repeat("0 ", 1<<20), strings.Repeat("in ", 1<<20), strings.Repeat(text+" ", 1<<12),
		text + strings.Repeat("0", 1<<20), text + strings.Repeat(" ", 1<<20), strings.Repeat("i", 1<<20) + text,
		with(text, 4, strings.Repeat("0", 1<<20)), with(text, 4, strings.Repeat("0", 1<<20)+"256"), with(text, 5, strings.Repeat("\xff", 1<<20)),
		with(text, 3, strings.Repeat("GetDescriptor", 1<<16)), with(text, 2, strings.Repeat("9", 1<<20)),
	} {
		r, e := requests.Parse(wrong)
		expectRequest(t, "Parse of "+short(wrong), r, e, api.Request{}, api.ErrForm)
	}
}
