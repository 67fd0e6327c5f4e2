package controls_test

import (
	"bytes"
	"slices"
	"strconv"
	"strings"
	"testing"

	"plugboard/api"
	"plugboard/controls"
	"plugboard/packets"
	"plugboard/transactions"
)

// sizes are what packets for endpoint 0 may have at most.
var sizes = []int{8, 16, 32, 64}

// The Types of requests in the tests: the data of the first goes to the host, that
// of the second to the device. All bits but bit 7 differ.
const (
	inward  = 0x80
	outward = 0x7f
)

// Packets of each form.
func token(pid api.Pid, addr, endp uint8) packets.Packet {
	return packets.Packet{Pid: pid, Addr: addr, Endp: endp}
}
func data(pid api.Pid, b ...byte) packets.Packet { return packets.Packet{Pid: pid, Data: b} }
func hand(pid api.Pid) packets.Packet            { return packets.Packet{Pid: pid} }

// mixed returns n bytes that differ.
func mixed(n, from int) []byte {
	out := make([]byte, n)
	for i := range out {
		out[i] = byte(from + i*i*31 + i*7 + i>>8)
	}
	return out
}

// asking returns a request.
func asking(typ uint8, length int) api.Request {
	return api.Request{Type: typ, Code: 6, Value: 0x102, Index: 0x304, Length: uint16(length)}
}

// outOf returns the data of a request that writes; none for others.
func outOf(r api.Request) []byte {
	if r.Type < 128 {
		return mixed(int(r.Length), 1)
	}
	return nil
}

// requestText returns a request as a text.
func requestText(r api.Request) string {
	return "request " + strconv.Itoa(int(r.Type)) + " " + strconv.Itoa(int(r.Code)) + " " + strconv.Itoa(int(r.Value)) + " " + strconv.Itoa(int(r.Index)) + " " + strconv.Itoa(int(r.Length))
}

// shown returns a packet as a text, also one with an error.
func shown(p packets.Packet) string {
	if text := packets.Text(p); text != "" {
		return text
	}
	return "invalid " + strconv.Itoa(int(p.Pid)) + " " + strconv.Itoa(int(p.Addr)) + "." + strconv.Itoa(int(p.Endp)) + " with " + strconv.Itoa(len(p.Data)) + " bytes"
}

// answerText returns an answer as a text. Without an answer the packet is zero.
func answerText(p packets.Packet, ok bool) string {
	switch {
	case ok:
		return shown(p)
	case packets.Same(p, packets.Packet{}) && p.Data == nil:
		return "none"
	}
	return "none, but " + shown(p)
}

// short returns the beginning of a text, for messages.
func short(text string) string {
	if len(text) > 300 {
		return text[:300] + " .."
	}
	return text
}

// expect compares two texts.
func expect(t *testing.T, name, got, want string) {
	t.Helper()
	if got != want {
		t.Errorf("%s: %s; expected %s", name, short(got), short(want))
	}
}

// expectError compares two errors.
func expectError(t *testing.T, name string, got, want api.Errno) {
	t.Helper()
	if got != want {
		t.Errorf("%s: error %d; expected %d", name, got, want)
	}
}

// expectBytes compares bytes.
func expectBytes(t *testing.T, name string, got, want []byte) {
	t.Helper()
	if !bytes.Equal(got, want) {
		t.Errorf("%s: %s; expected %s", name, short(shown(data(api.Data0, got...))), short(shown(data(api.Data0, want...))))
	}
}

// call is what a Handler was called with.
type call struct {
	r   api.Request
	out []byte
}

// sameCalls reports whether two lists of calls are the same.
func sameCalls(a, b []call) bool {
	return slices.EqualFunc(a, b, func(x, y call) bool { return x.r == y.r && bytes.Equal(x.out, y.out) })
}

// reply is what a Handler returns.
type reply struct {
	in []byte
	ok bool
}

// keeper is a Handler that notes what it is called with.
type keeper struct {
	calls []call
	reply reply
}

// Request notes a request, and returns the reply.
func (k *keeper) Request(r api.Request, out []byte) ([]byte, bool) {
	k.calls = append(k.calls, call{r, bytes.Clone(out)})
	return k.reply.in, k.reply.ok
}

// made returns a Zero that can be made.
func made(t *testing.T, max int, h controls.Handler) *controls.Zero {
	t.Helper()
	z, e := controls.NewZero(max, h)
	if z == nil || e != api.OK {
		t.Fatalf("NewZero of %d: error %d", max, e)
	}
	return z
}

// started returns a transfer that can be started.
func started(t *testing.T, r api.Request, out []byte, max int) controls.Transfer {
	t.Helper()
	x, e := controls.Start(r, out, max)
	if e != api.OK {
		t.Fatalf("Start of %s with %d bytes, max %d: error %d", requestText(r), len(out), max, e)
	}
	return x
}

// tryText returns a transaction as a text.
func tryText(x transactions.Try, ok bool) string {
	switch {
	case ok && !x.Iso:
		text := shown(token(x.What, x.Addr, x.Endp)) + " max " + strconv.Itoa(x.Max) + " " + shown(data(api.Data0, x.Data...))
		if x.Toggle {
			text += " toggle"
		}
		return text
	case !ok && x.What == 0 && x.Addr == 0 && x.Endp == 0 && !x.Toggle && !x.Iso && x.Max == 0 && x.Data == nil:
		return "none"
	}
	return "a wrong transaction"
}

// done returns the outcome of a transaction that was performed.
func done(b ...byte) transactions.Outcome {
	return transactions.Outcome{Result: transactions.Done, Data: b}
}

// ended returns the outcome of a transaction that was not.
func ended(r transactions.Result) transactions.Outcome { return transactions.Outcome{Result: r} }

// outcomeText returns an outcome as a text.
func outcomeText(o transactions.Outcome) string {
	return strconv.Itoa(int(o.Result)) + " with " + strconv.Itoa(len(o.Data)) + " bytes"
}

// outcomesText returns outcomes as a text.
func outcomesText(l []transactions.Outcome) string {
	words := make([]string, len(l))
	for i, o := range l {
		words[i] = outcomeText(o)
	}
	return "[" + strings.Join(words, ", ") + "]"
}
