package packets

import "plugboard/api"

// reading is a packet that is read, or compared with what is read.
type reading struct {
	Packet
	spare uint32 // the bit of a split packet that is 0, which is no field of it
}

// field is a part of the number that some packets have behind their first byte.
type field struct {
	bits int
	get  func(r *reading) uint32
	set  func(r *reading, v uint32)
}

// fieldsOf returns the fields of packets with this identifier, the lowest one
// first. Data and handshakes have none.
func fieldsOf(pid api.Pid) []field {
	switch pid {
	case api.Out, api.In, api.Setup:
		return tokenFields()
	case api.Sof:
		return frameFields()
	case api.Split:
		return splitFields()
	}
	return nil
}

// tokenFields returns the fields of a token.
func tokenFields() []field {
	return []field{
		{
			bits: 7,
			get:  func(r *reading) uint32 { return uint32(r.Addr) },
			set:  func(r *reading, v uint32) { r.Addr = uint8(v) },
		},
		{
			bits: 4,
			get:  func(r *reading) uint32 { return uint32(r.Endp) },
			set:  func(r *reading, v uint32) { r.Endp = uint8(v) },
		},
	}
}

// frameFields returns the fields of a start of frame.
func frameFields() []field {
	return []field{
		{
			bits: 11,
			get:  func(r *reading) uint32 { return uint32(r.Frame) },
			set:  func(r *reading, v uint32) { r.Frame = uint16(v) },
		},
	}
}

// splitFields returns the fields of a split.
func splitFields() []field {
	return []field{
		{
			bits: 7,
			get:  func(r *reading) uint32 { return uint32(r.Split.Hub) },
			set:  func(r *reading, v uint32) { r.Split.Hub = uint8(v) },
		},
		{
			bits: 1,
			get:  func(r *reading) uint32 { return bit(r.Split.Complete) },
			set:  func(r *reading, v uint32) { r.Split.Complete = v == 1 },
		},
		{
			bits: 7,
			get:  func(r *reading) uint32 { return uint32(r.Split.Port) },
			set:  func(r *reading, v uint32) { r.Split.Port = uint8(v) },
		},
		{
			bits: 1,
			get:  func(r *reading) uint32 { return bit(r.Split.Low) },
			set:  func(r *reading, v uint32) { r.Split.Low = v == 1 },
		},
		{
			bits: 1,
			get:  func(r *reading) uint32 { return r.spare },
			set:  func(r *reading, v uint32) { r.spare = v },
		},
		{
			bits: 2,
			get:  func(r *reading) uint32 { return uint32(r.Split.Kind) },
			set:  func(r *reading, v uint32) { r.Split.Kind = api.Kind(v) },
		},
	}
}

// bit returns 1 if a bool is set.
func bit(set bool) uint32 {
	if set {
		return 1
	}
	return 0
}

// walk passes each field, and the place of its lowest bit in the number, to a
// closure, and returns the number of bits of all. Packing and unpacking share
// it, so that they cannot disagree about the places.
func walk(fields []field, visit func(f field, place int)) int {
	place := 0
	for _, f := range fields {
		visit(f, place)
		place += f.bits
	}
	return place
}

// widthOf returns the number of bits of all fields.
func widthOf(fields []field) int { return walk(fields, func(field, int) {}) }

// packed returns the number that the fields of a packet make. (A value that is
// out of range reaches into the next field; see kept.)
func packed(r *reading, fields []field) uint32 {
	v := uint32(0)
	walk(fields, func(f field, place int) { v |= f.get(r) << place })
	return v
}

// unpack sets the fields of a packet to what a number says.
func unpack(r *reading, fields []field, v uint32) {
	walk(fields, func(f field, place int) { f.set(r, v>>place&(1<<f.bits-1)) })
}
