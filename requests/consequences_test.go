package requests_test

import (
	"fmt"
	"math/rand"
	"testing"

	"plugboard/api"
	"plugboard/requests"
)

// TestP12_6Bytes: Decode inverts Encode, so that requests with the same bytes are
// equal; and all bytes of eight are those of a request.
func TestP12_6Bytes(t *testing.T) {
	for _, r := range many(20000) {
		b := requests.Encode(r)
		back, e := requests.Decode(b)
		expectRequest(t, fmt.Sprintf("Decode of %v", b), back, e, r, api.OK)
		if again := requests.Encode(back); string(again) != string(b) {
			t.Errorf("Encode of %+v = %v; expected %v", back, again, b)
		}
	}
	random := rand.New(rand.NewSource(121))
	for range 20000 {
		b := make([]byte, 8)
		random.Read(b)
		r, e := requests.Decode(b)
		if got := requests.Encode(r); string(got) != string(b) || e != api.OK {
			t.Errorf("Decode of %v = %+v, error %d", b, r, e)
		}
	}
}

// TestP12_6Texts: Parse inverts Text, so that requests with the same text are equal.
func TestP12_6Texts(t *testing.T) {
	for _, r := range many(20000) {
		expectText(t, r)
	}
}

// TestP12_6Equal: of many requests, none that differ have the same bytes or text.
func TestP12_6Equal(t *testing.T) {
	byBytes, byText := map[string]api.Request{}, map[string]api.Request{}
	list := many(20000)
	for kind := range 256 {
		for code := range 256 {
			list = append(list, api.Request{Type: uint8(kind), Code: uint8(code)})
		}
	}
	for _, r := range list {
		b, text := string(requests.Encode(r)), requests.Text(r)
		if other, ok := byBytes[b]; ok && other != r {
			t.Errorf("%+v and %+v have the same bytes", r, other)
		}
		if other, ok := byText[text]; ok && other != r {
			t.Errorf("%+v and %+v have the same text", r, other)
		}
		byBytes[b], byText[text] = r, r
	}
}

// many returns all sorts of requests, and n random ones.
func many(n int) []api.Request {
	out := samples()
	random := rand.New(rand.NewSource(126))
	for range n {
		r := api.Request{Type: uint8(random.Uint32()), Code: uint8(random.Uint32() >> random.Intn(8)), Value: uint16(random.Uint32()), Index: uint16(random.Uint32()), Length: uint16(random.Uint32())}
		if random.Intn(2) == 0 {
			r.Type &^= 96
			r.Code %= 16
		}
		out = append(out, r)
	}
	return out
}

// TestP12_6Accepted: Parse accepts nothing that is not the text of the request that it
// returns.
func TestP12_6Accepted(t *testing.T) {
	random := rand.New(rand.NewSource(125))
	words, accepted := someWords(), 0
	for range 200000 {
		text := sampleTexts()[random.Intn(len(sampleTexts()))]
		for range 1 + random.Intn(3) {
			text = with(text, random.Intn(7), words[random.Intn(len(words))])
		}
		r, e := requests.Parse(text)
		if e != api.OK {
			expectRequest(t, "Parse of "+text, r, e, api.Request{}, api.ErrForm)
			continue
		}
		accepted++
		if got := requests.Text(r); got != text {
			t.Errorf("Parse of %q returns the request with the text %q", text, got)
		}
	}
	if accepted < 1000 {
		t.Errorf("only %d texts were accepted", accepted)
	}
}

// expectFormed checks that a request is well formed if, and only if, it is as in the
// table; and it is a standard request of the table otherwise.
func expectFormed(t *testing.T, r api.Request, formed bool) {
	t.Helper()
	want := api.ErrForm
	if formed {
		want = api.OK
	}
	if got := requests.Check(r); got != want {
		t.Errorf("Check of %+v = %d; expected %d", r, got, want)
	}
}

// isAddress reports whether a number is the address of an endpoint.
func isAddress(n uint16) bool { return n < 16 || n >= 128 && n < 144 }

// TestP12_6Formed: what the functions return is well formed if its receiver, Value and
// Index are as in the table.
func TestP12_6Formed(t *testing.T) {
	for n := range 256 {
		a := uint8(n)
		expectFormed(t, requests.Address(a), n < 128)
		expectFormed(t, requests.Configure(a), true)
		expectFormed(t, requests.Alternate(a), n < 16)
		for m := range 256 {
			b := uint8(m)
			expectFormed(t, requests.Alter(a, b), n < 16 && m < 16)
			expectFormed(t, requests.Descriptor(a, b, uint16(m)*257, uint16(n)*257), true)
		}
	}
	expectFormed(t, requests.Configuration(), true)
}

// TestP12_6FormedReceivers: so is what is asked of receivers, of which the lowest five
// bits count.
func TestP12_6FormedReceivers(t *testing.T) {
	for n := range 256 {
		receiver := uint8(n)
		for _, index := range words16() {
			device, face, endpoint := n%32 == 0 && index == 0, n%32 == 1 && index < 16, n%32 == 2 && isAddress(index)
			expectFormed(t, requests.Status(receiver, index), device || face || endpoint)
			for _, feature := range words16() {
				for _, set := range either {
					expectFormed(t, requests.Feature(set, receiver, feature, index), device && feature == 1 || endpoint && feature == 0)
				}
			}
		}
	}
}
