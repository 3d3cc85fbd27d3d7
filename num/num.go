// Package num: numbers as bytes: see doc/01-num.md.
package num

import (
	"engross/api"
)

const (
	// maxBytes: the folded number has 64 bits, of which a byte takes seven.
	maxBytes = 10
	// maxText bounds what GetText believes of a length, so that wrong bytes
	// cannot ask for more.
	maxText = 1 << 16
)

// Put answers b and the number n behind it.
func Put(b []byte, n int64) []byte {
	return appendFolded(copyWithRoom(b, maxBytes), fold(n))
}

// Get answers the number at b's beginning, and how many bytes it has.
func Get(b []byte) (int64, int, api.Errno) {
	var u uint64
	for i, c := range b {
		// Nine bytes have 63 bits: there is room for one more, and whatever
		// follows cannot mend a greater byte.
		if i == maxBytes-1 && c > 1 {
			return 0, 0, api.ErrForm
		}
		u |= uint64(c&127) << (7 * i)
		if c >= 128 {
			continue
		}
		// A last byte of 0 adds nothing, so fewer bytes would have done.
		if c == 0 && i > 0 {
			return 0, 0, api.ErrForm
		}
		return unfold(u), i + 1, api.OK
	}
	return 0, 0, api.ErrMore
}

// PutText answers b, the length of s and its bytes.
func PutText(b []byte, s string) []byte {
	out := copyWithRoom(b, maxBytes+len(s))
	out = appendFolded(out, fold(int64(len(s))))
	return append(out, s...)
}

// GetText answers the text at b's beginning, and how many bytes it has with
// its length.
func GetText(b []byte) (string, int, api.Errno) {
	n, k, err := Get(b)
	if err != api.OK {
		return "", 0, err
	}
	if n < 0 || n > maxText {
		return "", 0, api.ErrForm
	}
	end := k + int(n)
	if end > len(b) {
		return "", 0, api.ErrMore
	}
	return string(b[k:end]), end, api.OK
}

// copyWithRoom keeps the appends of its callers out of b's spare room, which
// is not theirs.
func copyWithRoom(b []byte, room int) []byte {
	out := make([]byte, len(b), len(b)+room)
	copy(out, b)
	return out
}

// fold doubles without a sign, and steps towards 0 ahead of turning the sign:
// so nothing wraps, not even of the least int64.
func fold(n int64) uint64 {
	if n < 0 {
		return 2*uint64(-(n+1)) + 1
	}
	return 2 * uint64(n)
}

// unfold halves ahead of the sign, so that each half fits an int64.
func unfold(u uint64) int64 {
	half := int64(u / 2)
	if u%2 == 1 {
		return -half - 1
	}
	return half
}

// appendFolded writes into b's spare room: b must be the caller's own.
func appendFolded(b []byte, u uint64) []byte {
	for u >= 128 {
		b = append(b, byte(u%128)+128)
		u /= 128
	}
	return append(b, byte(u))
}
