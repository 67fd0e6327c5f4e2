package transactions_test

import (
	"math"
	"testing"

	"plugboard/api"
	"plugboard/transactions"
)

// errorOf returns the error of a transaction, by the conditions of the chapter
// in their order.
func errorOf(t transactions.Try) api.Errno {
	in, out, setup := t.What == api.In, t.What == api.Out, t.What == api.Setup
	for _, condition := range []struct {
		applies bool
		e       api.Errno
	}{
		{t.Addr > 127, api.ErrArg},
		{t.Endp > 15, api.ErrArg},
		{!in && !out && !setup, api.ErrArg},
		{in && t.Max < 0, api.ErrArg},
		{in && t.Max > 1024, api.ErrArg},
		{in && len(t.Data) > 0, api.ErrArg},
		{!in && t.Max != 0, api.ErrArg},
		{t.Iso && t.Toggle, api.ErrArg},
		{setup && t.Iso, api.ErrArg},
		{setup && t.Toggle, api.ErrArg},
		{setup && len(t.Data) != 8, api.ErrWidth},
		{len(t.Data) > 1024, api.ErrLimit},
	} {
		if condition.applies {
			return condition.e
		}
	}
	return api.OK
}

// lengths are numbers of bytes of data.
var lengths = []int{0, 1, 7, 8, 9, 1023, 1024, 1025, 5000}

// greatest are values of Max.
var greatest = []int{math.MinInt, -1025, -1, 0, 1, 8, 1023, 1024, 1025, math.MaxInt}

// eachTry calls f with transactions of these kinds with all combinations of what
// the other fields may have.
func eachTry(kinds []api.Pid, addresses, numbers []uint8, f func(transactions.Try)) {
	memory := mixed(5000, 1)
	for _, what := range kinds {
		for _, addr := range addresses {
			for _, endp := range numbers {
				for flags := range 4 {
					for _, most := range greatest {
						for _, n := range lengths {
							f(transactions.Try{
								Addr: addr, Endp: endp, What: what, Toggle: flags&1 == 1, Iso: flags&2 == 2,
								Max: most, Data: memory[:n:n],
							})
						}
					}
				}
			}
		}
	}
}

// allKinds returns all numbers of identifiers.
func allKinds() []api.Pid {
	out := make([]api.Pid, 256)
	for i := range out {
		out[i] = api.Pid(i)
	}
	return out
}

// TestP6_2Check: all kinds, and the other fields at their edges.
func TestP6_2Check(t *testing.T) {
	seen := map[api.Errno]int{}
	eachTry(allKinds(), []uint8{0, 1, 127, 128, 255}, []uint8{0, 1, 15, 16, 255}, func(x transactions.Try) {
		want := errorOf(x)
		seen[want]++
		if e := transactions.Check(x); e != want {
			t.Fatalf("Check of %s: %d; expected %d", tryText(x), e, want)
		}
	})
	for _, e := range []api.Errno{api.OK, api.ErrArg, api.ErrWidth, api.ErrLimit} {
		if seen[e] == 0 {
			t.Errorf("no transaction has the error %d", e)
		}
	}
}

// TestP6_2Numbers: all addresses and numbers of endpoints.
func TestP6_2Numbers(t *testing.T) {
	for _, x := range samples() {
		for addr := range 256 {
			for endp := range 256 {
				x.Addr, x.Endp = uint8(addr), uint8(endp)
				want := api.OK
				if addr > 127 || endp > 15 {
					want = api.ErrArg
				}
				if e := transactions.Check(x); e != want {
					t.Fatalf("Check of %s: %d; expected %d", tryText(x), e, want)
				}
			}
		}
	}
}

// TestP6_2Order: the error that is named first, where several apply.
func TestP6_2Order(t *testing.T) {
	for _, c := range []struct {
		x    transactions.Try
		want api.Errno
	}{
		{transactions.Try{}, api.ErrArg},
		{transactions.Try{What: api.Setup}, api.ErrWidth},
		{transactions.Try{What: api.Setup, Data: mixed(7, 1)}, api.ErrWidth},
		{transactions.Try{What: api.Setup, Data: mixed(1025, 1)}, api.ErrWidth},
		{transactions.Try{What: api.Setup, Max: 1}, api.ErrArg},
		{transactions.Try{What: api.Setup, Toggle: true, Data: mixed(7, 1)}, api.ErrArg},
		{transactions.Try{What: api.Setup, Iso: true, Data: mixed(1025, 1)}, api.ErrArg},
		{transactions.Try{What: api.Setup, Addr: 128, Data: mixed(9, 1)}, api.ErrArg},
		{transactions.Try{What: api.Out, Data: mixed(1025, 1)}, api.ErrLimit},
		{transactions.Try{What: api.Out, Endp: 16, Data: mixed(1025, 1)}, api.ErrArg},
		{transactions.Try{What: api.Out, Max: 1, Data: mixed(1025, 1)}, api.ErrArg},
		{transactions.Try{What: api.Out, Toggle: true, Iso: true, Data: mixed(1025, 1)}, api.ErrArg},
		{transactions.Try{What: api.In, Max: 1025}, api.ErrArg},
		{transactions.Try{What: api.In, Data: mixed(1025, 1)}, api.ErrArg},
		{transactions.Try{What: api.In, Max: 1024, Data: []byte{}}, api.OK},
		{transactions.Try{What: api.Sof, Data: mixed(1025, 1)}, api.ErrArg},
	} {
		if e := transactions.Check(c.x); e != c.want {
			t.Errorf("Check of %s: %d; expected %d", tryText(c.x), e, c.want)
		}
	}
}

// TestP6_2Samples: the transactions that the other tests perform have no error.
func TestP6_2Samples(t *testing.T) {
	for _, x := range samples() {
		if e := transactions.Check(x); e != api.OK {
			t.Errorf("Check of %s: %d", tryText(x), e)
		}
	}
}
