package controls_test

import (
	"slices"
	"strconv"
	"testing"

	"plugboard/api"
	"plugboard/controls"
	"plugboard/transactions"
)

// TestP8_5End: what End returns in each stage, and behind each ending.
func TestP8_5End(t *testing.T) {
	eight := mixed(8, 1)
	for i, c := range []struct {
		r    api.Request
		l    []transactions.Outcome
		data []byte
		e    api.Errno
	}{
		{asking(inward, 10), nil, nil, api.ErrState},
		{asking(inward, 10), []transactions.Outcome{done()}, nil, api.ErrState},
		{asking(inward, 10), []transactions.Outcome{done(), done(eight...)}, nil, api.ErrState},
		{asking(inward, 10), []transactions.Outcome{done(), done(eight...), done(1, 2)}, nil, api.ErrState},
		{asking(inward, 10), []transactions.Outcome{done(), done(eight...), done(1, 2), done()}, append(slices.Clone(eight), 1, 2), api.OK},
		{asking(inward, 10), []transactions.Outcome{done(), done(eight...), done(), done()}, eight, api.OK},
		{asking(inward, 10), []transactions.Outcome{done(), done(), done()}, nil, api.OK},
		{asking(inward, 10), []transactions.Outcome{done(), done(eight...), done(1, 2), done(9, 9)}, append(slices.Clone(eight), 1, 2), api.OK},
		{asking(inward, 10), []transactions.Outcome{done(), done(eight...), done(1, 2, 3)}, nil, api.ErrBabble},
		{asking(inward, 10), []transactions.Outcome{done(), done(mixed(9, 1)...)}, nil, api.ErrBabble},
		{asking(inward, 10), []transactions.Outcome{done(), done(eight...), done(eight...)}, nil, api.ErrBabble},
		{asking(inward, 10), []transactions.Outcome{stall}, nil, api.ErrStall},
		{asking(inward, 10), []transactions.Outcome{done(), done(eight...), stall}, nil, api.ErrStall},
		{asking(inward, 10), []transactions.Outcome{done(), done(1), babble}, nil, api.ErrBabble},
		{asking(outward, 10), []transactions.Outcome{done(5), done(5), done(5)}, nil, api.ErrState},
		{asking(outward, 10), []transactions.Outcome{done(5), done(5), done(5), done()}, nil, api.OK},
		{asking(outward, 10), []transactions.Outcome{done(), done(), done(), done(5)}, nil, api.ErrBabble},
		{asking(outward, 10), []transactions.Outcome{done(), done(), none, none, none}, nil, api.ErrTime},
		{asking(outward, 0), []transactions.Outcome{done(), done()}, nil, api.OK},
		{asking(outward, 0), []transactions.Outcome{done(), done(5)}, nil, api.ErrBabble},
		{asking(inward, 0), []transactions.Outcome{done(), done(5)}, nil, api.ErrBabble},
		{asking(inward, 0), []transactions.Outcome{done(5), done()}, nil, api.OK},
	} {
		p := expectOutcomes(t, c.r, 8, c.l)
		for range 2 {
			b, e := controls.End(p.x)
			expectError(t, "row "+strconv.Itoa(i), e, c.e)
			expectBytes(t, "row "+strconv.Itoa(i), b, c.data)
		}
	}
	b, e := controls.End(controls.Transfer{})
	expectError(t, "End of a zero transfer", e, api.ErrNil)
	expectBytes(t, "End of a zero transfer", b, nil)
}
