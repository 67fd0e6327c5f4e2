package periodics_test

import (
	"bytes"
	"fmt"
	"math"
	"reflect"
	"slices"
	"testing"

	"plugboard/api"
	"plugboard/periodics"
	"plugboard/transactions"
)

// powers are the periods that there may be.
var powers = []int{1, 2, 4, 8, 16, 32, 64, 128, 256}

// sizes are some of the greatest numbers of bytes in a packet.
var sizes = []int{1, 2, 8, 64, 1023, 1024}

// either is both values.
var either = []bool{false, true}

// mixed returns n bytes that differ.
func mixed(n, from int) []byte {
	out := make([]byte, n)
	for i := range out {
		out[i] = byte(from + i*i*31 + i*7 + i>>8)
	}
	return out
}

// around returns numbers, those next to them, and the least and the greatest one, each
// once and ascending.
func around(l ...int) []int {
	out := []int{math.MinInt, math.MinInt + 1, math.MaxInt - 1, math.MaxInt}
	for _, n := range l {
		out = append(out, n-1, n, n+1)
	}
	slices.Sort(out)
	return slices.Compact(out)
}

// reading returns a plan that reads packets of at most this many bytes.
func reading(many, max int) periodics.Plan {
	return periodics.Plan{In: true, Endp: 1, Max: max, Many: many}
}

// writing returns a plan that writes packets with as many bytes as these.
func writing(max int, l ...int) periodics.Plan {
	p := periodics.Plan{Endp: 1, Max: max}
	for i, n := range l {
		p.Packets = append(p.Packets, mixed(n, 40*i+1))
	}
	return p
}

// short returns the beginning of a text, for messages.
func short(text string) string {
	if len(text) > 500 {
		return text[:500] + " .."
	}
	return text
}

// planText returns a plan as a text.
func planText(p periodics.Plan) string {
	return short(fmt.Sprintf("a plan with In %t, endpoint %d, max %d, many %d, %d packets %v", p.In, p.Endp, p.Max, p.Many, len(p.Packets), p.Packets))
}

// tryText returns a transaction as a text.
func tryText(x transactions.Try, ok bool) string { return fmt.Sprintf("%+v, %t", x, ok) }

// endText returns what became of packets as a text.
func endText(l []periodics.Piece, ok bool) string { return fmt.Sprintf("%v, %t", l, ok) }

// outcomesText returns outcomes as a text.
func outcomesText(l []transactions.Outcome) string {
	text := ""
	for _, o := range l {
		text += fmt.Sprintf("%d with %d bytes; ", o.Result, len(o.Data))
	}
	return "outcomes " + short(text)
}

// expect compares two texts.
func expect(t *testing.T, name, got, want string) {
	t.Helper()
	if got != want {
		t.Errorf("%s: %s; expected %s", name, short(got), short(want))
	}
}

// isZero reports whether a transfer is zero.
func isZero(x periodics.Transfer) bool { return reflect.DeepEqual(x, periodics.Transfer{}) }

// started returns a transfer that can be started.
func started(t *testing.T, p periodics.Plan) periodics.Transfer {
	t.Helper()
	x, e := periodics.Start(p)
	if e != api.OK {
		t.Fatalf("Start of %s: error %d", planText(p), e)
	}
	return x
}

// answered returns a transfer behind outcomes.
func answered(x periodics.Transfer, l ...transactions.Outcome) periodics.Transfer {
	for _, o := range l {
		x = periodics.Answer(x, o)
	}
	return x
}

// done returns the outcome of a transaction that was performed.
func done(b ...byte) transactions.Outcome {
	return transactions.Outcome{Result: transactions.Done, Data: b}
}

// doneWith returns the outcome of a transaction that has read n bytes.
func doneWith(n int) transactions.Outcome { return done(mixed(n, 5)...) }

// The outcomes without data.
var (
	nak    = transactions.Outcome{Result: transactions.Nak}
	stall  = transactions.Outcome{Result: transactions.Stall}
	none   = transactions.Outcome{Result: transactions.None}
	babble = transactions.Outcome{Result: transactions.Babble}
	again  = transactions.Outcome{Result: transactions.Again}
)

// unknown are outcomes whose results are none of those of layer 6.
var unknown = []transactions.Outcome{{}, {Result: 7}, {Result: 255}, {Data: []byte{1}}, {Result: 7, Data: mixed(20, 1)}}

// anyOutcome are outcomes of every sort, for packets of at most this many bytes. Data
// are also beside results that have none.
func anyOutcome(max int) []transactions.Outcome {
	l := []transactions.Outcome{nak, stall, none, babble, again, unknown[0], unknown[4]}
	for _, n := range []int{0, max - 1, max, max + 1} {
		l = append(l, doneWith(n))
	}
	for r := range transactions.Result(7) {
		l = append(l, transactions.Outcome{Result: r, Data: bytes.Repeat([]byte{9}, max)})
	}
	return l
}
