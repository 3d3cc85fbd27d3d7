package super

import (
	"bytes"

	"engross/api"
	"engross/crc"
)

const maxText = 40

// Where a sector has what: the sum of all behind it, the turn, the text's
// length, the text. The rest are noughts.
const (
	turnAt   = 4
	lengthAt = 12
	textAt   = 13
)

// record is a text, of at most maxText bytes, and its turn; turn 0: none.
type record struct {
	turn int64
	text string
}

// pack answers the sector that has r: all of it, so that nothing of what it
// had is left behind a shorter text.
func (r record) pack() []byte {
	b := make([]byte, api.Sector)
	put(b[turnAt:lengthAt], uint64(r.turn))
	b[lengthAt] = byte(len(r.text))
	copy(b[textAt:], r.text)
	put(b[:turnAt], uint64(crc.Sum(b[turnAt:])))
	return b
}

// unpack answers what the sector b has: none, if pack did not make it.
func unpack(b []byte) record {
	if len(b) != api.Sector {
		return record{}
	}
	turn, n := int64(get(b[turnAt:lengthAt])), int(b[lengthAt])
	// No Save comes beyond MaxNum: such a turn would only let a later one wrap.
	if turn < 1 || turn > api.MaxNum || n > maxText {
		return record{}
	}
	r := record{turn, string(b[textAt : textAt+n])}
	if !bytes.Equal(r.pack(), b) {
		return record{}
	}
	return r
}

// put fills b with n, the highest byte first.
func put(b []byte, n uint64) {
	for i := range b {
		b[len(b)-1-i] = byte(n >> (8 * i))
	}
}

// get answers what put filled b with.
func get(b []byte) uint64 {
	n := uint64(0)
	for _, c := range b {
		n = n<<8 | uint64(c)
	}
	return n
}
