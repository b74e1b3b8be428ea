// Package varint is layer 1: see shared/doc/01-varint.md.
package varint

import "sumpter/api"

// widths stand in the order of the marks: a width's place here is what the two highest bits of its first byte say.
var widths = [4]int{1, 2, 4, 8}

// Len tells a number's least width.
func Len(n int) int {
	for _, width := range widths {
		if hasRoom(n, width) {
			return width
		}
	}
	return 0
}

// Put lays a number.
func Put(n int) ([]byte, api.Errno) {
	width := Len(n)
	if width == 0 {
		return nil, api.ErrRange
	}
	return PutIn(n, width)
}

// PutIn lays a number in a width.
func PutIn(n, width int) ([]byte, api.Errno) {
	mark, ok := markOf(width)
	if !ok {
		return nil, api.ErrArg
	}
	if !hasRoom(n, width) {
		return nil, api.ErrRange
	}
	b := make([]byte, width)
	for i := width - 1; i >= 0; i-- {
		b[i] = byte(n)
		n >>= 8
	}
	b[0] |= mark << 6
	return b, api.OK
}

// Get reads a number.
func Get(b []byte) (n, used int, err api.Errno) {
	if len(b) == 0 {
		return 0, 0, api.ErrCut
	}
	used = widths[b[0]>>6]
	if len(b) < used {
		return 0, 0, api.ErrCut
	}
	n = int(b[0] & 0x3f)
	for _, next := range b[1:used] {
		n = n<<8 | int(next)
	}
	return n, used, api.OK
}

// Shortest reads a number that stands in its least width.
func Shortest(b []byte) (n, used int, err api.Errno) {
	n, used, err = Get(b)
	if err != api.OK {
		return 0, 0, err
	}
	if Len(n) < used {
		return 0, 0, api.ErrForm
	}
	return n, used, api.OK
}

// hasRoom takes two bits off the width, as they hold its mark. The width must be one of the four.
func hasRoom(n, width int) bool {
	return n >= 0 && n < 1<<(8*width-2)
}

func markOf(width int) (mark byte, ok bool) {
	for place, w := range widths {
		if w == width {
			return byte(place), true
		}
	}
	return 0, false
}
