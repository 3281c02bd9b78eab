package air

// spoil is what a changed byte is turned about by.
const spoil = 0x5a

// datagram is bytes as they were put, and the mark whether one was changed.
// The bytes are never written to, so that doubles may share them: a change is
// noted beside them, and made in what is told.
type datagram struct {
	bytes   []byte
	changed bool
	at      int // which byte was changed
}

// change notes that the byte at that place, modulo the length, is changed. A
// second change does nothing: what comes is but for one byte what was put in.
func (d *datagram) change(at int) {
	if d.changed || len(d.bytes) == 0 {
		return
	}
	d.changed = true
	d.at = at % len(d.bytes)
}

// told is the datagram as new bytes, changed if it was.
func (d datagram) told() []byte {
	b := clone(d.bytes)
	if d.changed {
		b[d.at] ^= spoil
	}
	return b
}

// clone is a list of its own, with no room behind its end.
func clone(b []byte) []byte {
	c := make([]byte, len(b))
	copy(c, b)
	return c
}
