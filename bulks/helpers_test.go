package bulks_test

import (
	"bytes"
	"slices"
	"strconv"
	"strings"
	"testing"

	"plugboard/api"
	"plugboard/bulks"
	"plugboard/transactions"
)

// either is both values.
var either = []bool{false, true}

// sizes are some of the greatest numbers of bytes in a packet.
var sizes = []int{1, 2, 3, 7, 8, 64, 512, 1023, 1024}

// mixed returns n bytes that differ.
func mixed(n, from int) []byte {
	out := make([]byte, n)
	for i := range out {
		out[i] = byte(from + i*i*31 + i*7 + i>>8)
	}
	return out
}

// around returns the numbers from 0 on that are next to these ones, each once.
func around(l ...int) []int {
	var out []int
	for _, n := range l {
		out = append(out, max(n-1, 0), n, n+1)
	}
	slices.Sort(out)
	return slices.Compact(out)
}

// sameLists reports whether two lists of packets are equal.
func sameLists(a, b [][]byte) bool { return slices.EqualFunc(a, b, bytes.Equal) }

// lengths returns how many bytes each packet has, as a text.
func lengths(l [][]byte) string {
	words := make([]string, len(l))
	for i, b := range l {
		words[i] = strconv.Itoa(len(b))
	}
	return short("[" + strings.Join(words, " ") + "]")
}

// short returns the beginning of a text, for messages.
func short(text string) string {
	if len(text) > 300 {
		return text[:300] + " .."
	}
	return text
}

// shown returns the beginning of bytes, for messages.
func shown(b []byte) string {
	words := make([]string, len(b))
	for i, x := range b {
		words[i] = strconv.Itoa(int(x))
	}
	return strconv.Itoa(len(b)) + " bytes " + short(strings.Join(words, " "))
}

// expect compares two texts.
func expect(t *testing.T, name, got, want string) {
	t.Helper()
	if got != want {
		t.Errorf("%s: %s; expected %s", name, short(got), short(want))
	}
}

// expectError compares two errors.
func expectError(t *testing.T, name string, got, want api.Errno) {
	t.Helper()
	if got != want {
		t.Errorf("%s: error %d; expected %d", name, got, want)
	}
}

// expectBytes compares bytes.
func expectBytes(t *testing.T, name string, got, want []byte) {
	t.Helper()
	if !bytes.Equal(got, want) {
		t.Errorf("%s: %s; expected %s", name, shown(got), shown(want))
	}
}

// reading returns a plan that reads n bytes in packets of at most this many.
func reading(n, max int) bulks.Plan { return bulks.Plan{In: true, Endp: 1, Max: max, Length: n} }

// writing returns a plan that writes n bytes in packets of at most this many.
func writing(n, max int) bulks.Plan { return bulks.Plan{Endp: 1, Max: max, Data: mixed(n, 1)} }

// terminated returns a plan with Zero set.
func terminated(p bulks.Plan) bulks.Plan {
	p.Zero = true
	return p
}

// planText returns a plan as a text.
func planText(p bulks.Plan) string {
	text := "a plan OUT, "
	if p.In {
		text = "a plan IN, "
	}
	return text + "endpoint " + strconv.Itoa(int(p.Endp)) + ", max " + strconv.Itoa(p.Max) + ", toggle " + strconv.FormatBool(p.Toggle) + ", " + strconv.Itoa(len(p.Data)) + " bytes, zero " + strconv.FormatBool(p.Zero) + ", length " + strconv.Itoa(p.Length)
}

// started returns a transfer that can be started.
func started(t *testing.T, p bulks.Plan) bulks.Transfer {
	t.Helper()
	x, e := bulks.Start(p)
	if e != api.OK {
		t.Fatalf("Start of %s: error %d", planText(p), e)
	}
	return x
}

// tryText returns a transaction as a text.
func tryText(x transactions.Try, ok bool) string {
	text := "transaction " + strconv.Itoa(int(x.What)) + " of " + strconv.Itoa(int(x.Addr)) + "." + strconv.Itoa(int(x.Endp)) + ", max " + strconv.Itoa(x.Max) + ", toggle " + strconv.FormatBool(x.Toggle) + ", " + shown(x.Data)
	switch {
	case x.Iso:
		return "isochronous " + text
	case !ok && sameTries(x, transactions.Try{}):
		return "none"
	case !ok:
		return "none, but " + text
	}
	return text
}

// sameTries reports whether two transactions are equal.
func sameTries(a, b transactions.Try) bool {
	return a.Addr == b.Addr && a.Endp == b.Endp && a.What == b.What && a.Toggle == b.Toggle && a.Iso == b.Iso && a.Max == b.Max && bytes.Equal(a.Data, b.Data)
}

// endText returns how a transfer ended as a text.
func endText(x bulks.Ending, ok bool) string {
	text := "error " + strconv.Itoa(int(x.Errno)) + ", actual " + strconv.Itoa(x.Actual) + ", " + shown(x.Data)
	switch {
	case !ok && x.Errno == 0 && x.Actual == 0 && len(x.Data) == 0:
		return "not over"
	case !ok:
		return "not over, but " + text
	}
	return text
}

// done returns the outcome of a transaction that was performed.
func done(b ...byte) transactions.Outcome {
	return transactions.Outcome{Result: transactions.Done, Data: b}
}

// doneWith returns the outcome of a transaction that has read n bytes.
func doneWith(n int) transactions.Outcome { return done(mixed(n, 5)...) }

// The outcomes without data.
var (
	nak    = transactions.Outcome{Result: transactions.Nak}
	stall  = transactions.Outcome{Result: transactions.Stall}
	none   = transactions.Outcome{Result: transactions.None}
	babble = transactions.Outcome{Result: transactions.Babble}
	again  = transactions.Outcome{Result: transactions.Again}
)

// unknown are outcomes whose results are none of those of layer 6.
var unknown = []transactions.Outcome{{}, {Result: 7}, {Result: 255}, {Result: 0, Data: []byte{1}}, {Result: 8, Data: mixed(20, 1)}}

// anyOutcome are outcomes of every sort, for packets of at most this many bytes.
func anyOutcome(max int) []transactions.Outcome {
	l := []transactions.Outcome{nak, stall, none, babble, again, unknown[1]}
	for _, n := range around(0, max) {
		l = append(l, doneWith(n))
	}
	return l
}

// outcomesText returns outcomes as a text.
func outcomesText(l []transactions.Outcome) string {
	words := make([]string, len(l))
	for i, o := range l {
		words[i] = strconv.Itoa(int(o.Result)) + " with " + strconv.Itoa(len(o.Data)) + " bytes"
	}
	return "[" + short(strings.Join(words, ", ")) + "]"
}
