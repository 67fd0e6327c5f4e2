package requests_test

import (
	"testing"

	"plugboard/api"
	"plugboard/requests"
)

// TestP12_3Examples: the examples of the chapter, and requests with each error.
func TestP12_3Examples(t *testing.T) {
	for _, c := range []struct {
		r    api.Request
		want api.Errno
	}{
		{requests.Feature(true, requests.Endpoint, requests.Halt, 129), api.OK},
		{requests.Feature(true, requests.Device, requests.Halt, 0), api.ErrForm},
		{api.Request{Type: 163, Index: 1, Length: 4}, api.ErrArg},
		{api.Request{Type: 128, Length: 2}, api.OK},
		{api.Request{}, api.ErrForm},
		{api.Request{Code: 2}, api.ErrNone},
		{api.Request{Code: 4}, api.ErrNone},
		{api.Request{Code: 13}, api.ErrNone},
		{api.Request{Type: 255, Code: 255, Value: 65535, Index: 65535, Length: 65535}, api.ErrArg},
		{api.Request{Type: 32, Code: 2}, api.ErrArg},
		{api.Request{Type: 159, Code: 255, Value: 65535}, api.ErrNone},
	} {
		if got := requests.Check(c.r); got != c.want {
			t.Errorf("Check of %+v = %d; expected %d", c.r, got, c.want)
		}
	}
}

// TestP12_3Rows: each row of the table with each of its values: alone those of a field,
// and together those at the edges.
func TestP12_3Rows(t *testing.T) {
	expectFormed := func(r api.Request) {
		if e := requests.Check(r); e != api.OK {
			t.Errorf("Check of %+v = %d", r, e)
		}
	}
	for _, r := range formed() {
		expectFormed(r)
	}
	for _, l := range table {
		base := api.Request{Type: l.kind, Code: l.code, Value: edges(l.values)[0], Index: edges(l.indices)[0], Length: edges(l.lengths)[0]}
		for n := range maxWord + 1 {
			w := uint16(n)
			for _, c := range []struct {
				spans []span
				field *uint16
			}{{l.values, &base.Value}, {l.indices, &base.Index}, {l.lengths, &base.Length}} {
				if within(w, c.spans) {
					was := *c.field
					*c.field = w
					expectFormed(base)
					*c.field = was
				}
			}
		}
	}
}

// eachField calls f with requests in which one of Value, Index and Length is a number.
func eachField(base api.Request, n uint16, f func(api.Request)) {
	value, index, length := base, base, base
	value.Value, index.Index, length.Length = n, n, n
	for _, r := range []api.Request{value, index, length} {
		f(r)
	}
}

// TestP12_3Alone: a request that is well formed, with any other Type, any other Code,
// and any other Value, Index and Length, each alone.
func TestP12_3Alone(t *testing.T) {
	expect := func(r api.Request) { expectCheck(t, r) }
	for _, l := range table {
		least := api.Request{Type: l.kind, Code: l.code, Value: uint16(l.values[0].lo), Index: uint16(l.indices[0].lo), Length: uint16(l.lengths[0].lo)}
		most := api.Request{Type: l.kind, Code: l.code, Value: uint16(l.values[0].hi), Index: uint16(l.indices[len(l.indices)-1].hi), Length: uint16(l.lengths[0].hi)}
		for n := range 256 {
			for _, r := range []api.Request{least, most} {
				r.Type = uint8(n)
				expect(r)
				r.Type, r.Code = l.kind, uint8(n)
				expect(r)
			}
		}
		for n := range maxWord + 1 {
			eachField(least, uint16(n), expect)
		}
		for _, spans := range [][]span{l.values, l.indices, l.lengths} {
			for _, n := range around(spans) {
				eachField(most, n, expect)
			}
		}
	}
}

// TestP12_3Beyond: each row with one beyond its values on each side, and with the other
// direction, another kind and another receiver: the error is the one of the chapter.
func TestP12_3Beyond(t *testing.T) {
	for _, l := range table {
		base := api.Request{Type: l.kind, Code: l.code, Value: uint16(l.values[0].lo), Index: uint16(l.indices[0].lo), Length: uint16(l.lengths[0].lo)}
		if got := requests.Check(base); got != api.OK {
			t.Errorf("Check of %+v = %d", base, got)
		}
		expectForm := func(r api.Request) {
			if got := requests.Check(r); got != api.ErrForm {
				t.Errorf("Check of %+v = %d; expected ErrForm", r, got)
			}
		}
		for _, n := range beyond(l.values) {
			r := base
			r.Value = n
			expectForm(r)
		}
		for _, n := range beyond(l.indices) {
			r := base
			r.Index = n
			expectForm(r)
		}
		for _, n := range beyond(l.lengths) {
			r := base
			r.Length = n
			expectForm(r)
		}
		other := base
		other.Type ^= 128
		expectForm(other)
		for receiver := uint8(4); receiver < 32; receiver++ {
			other.Type = l.kind&128 + receiver
			expectForm(other)
		}
		other.Type = l.kind&128 + requests.Other
		expectForm(other)
		for kind := uint8(1); kind < 4; kind++ {
			other.Type = l.kind + 32*kind
			if got := requests.Check(other); got != api.ErrArg {
				t.Errorf("Check of %+v = %d; expected ErrArg", other, got)
			}
		}
	}
}

// beyond returns the numbers just outside of spans, and those that have the same lower
// byte as one inside. (Those below 0 and above 65535 come around to the other end.)
func beyond(l []span) []uint16 {
	var out []uint16
	for _, s := range l {
		for _, n := range []int{s.lo - 1, s.hi + 1, s.lo + 256, s.hi + 256, s.lo + 32768, s.hi + 65280} {
			if w := uint16(n); !within(w, l) {
				out = append(out, w)
			}
		}
	}
	return out
}

// TestP12_3Codes: every code with each kind, direction and receiver.
func TestP12_3Codes(t *testing.T) {
	for code := range 256 {
		for kind := range 256 {
			for _, length := range []uint16{0, 1, 2, 3, 65535} {
				for value := range uint16(2) {
					expectCheck(t, api.Request{Type: uint8(kind), Code: uint8(code), Value: value, Length: length})
				}
			}
		}
	}
}

// TestP12_3Together: Types and codes around those of the table, with all combinations
// of numbers at the edges of all rows.
func TestP12_3Together(t *testing.T) {
	words := []uint16{0, 1, 2, 15, 16, 127, 128, 143, 144, 255, 256, 65535}
	kinds := []uint8{0, 1, 2, 3, 4, 31, 32, 34, 96, 128, 129, 130, 131, 132, 159, 161, 192, 255}
	for _, kind := range kinds {
		for code := range uint8(15) {
			for _, value := range words {
				for _, index := range words {
					for length := range uint16(4) {
						expectCheck(t, api.Request{Type: kind, Code: code, Value: value, Index: index, Length: length})
					}
				}
			}
		}
	}
}

// TestP12_3Endpoints: every address of an endpoint, and every number that is none.
func TestP12_3Endpoints(t *testing.T) {
	for n := range maxWord + 1 {
		want := api.ErrForm
		if n < 16 || n >= 128 && n < 144 {
			want = api.OK
		}
		for _, r := range []api.Request{
			{Type: 130, Code: 0, Index: uint16(n), Length: 2}, {Type: 2, Code: 1, Index: uint16(n)},
			{Type: 2, Code: 3, Index: uint16(n)}, {Type: 130, Code: 12, Index: uint16(n), Length: 2},
		} {
			if got := requests.Check(r); got != want {
				t.Errorf("Check of %+v = %d; expected %d", r, got, want)
			}
		}
	}
}

// TestP12_3Samples: the error of all sorts of requests.
func TestP12_3Samples(t *testing.T) {
	for _, r := range samples() {
		expectCheck(t, r)
	}
}
