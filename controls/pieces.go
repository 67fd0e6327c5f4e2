package controls

// pieces are packets that were received; nil is none. They never change, so that
// transfers share them: a copy of all bytes for each packet would take far too long.
type pieces struct {
	before *pieces
	last   []byte
	total  int // bytes, of all packets
}

// count returns the number of bytes.
func (p *pieces) count() int {
	if p == nil {
		return 0
	}
	return p.total
}

// with returns these packets and one more.
func (p *pieces) with(b []byte) *pieces {
	return &pieces{before: p, last: own(b), total: p.count() + len(b)}
}

// bytes returns the bytes of all packets, in the order in which they came.
func (p *pieces) bytes() []byte {
	out := make([]byte, p.count())
	end := len(out)
	for ; p != nil; p = p.before {
		end -= len(p.last)
		copy(out[end:], p.last)
	}
	return out
}
