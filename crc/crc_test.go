package crc

import (
	"bytes"
	"math"
	"strings"
	"testing"

	"sumpter/api"
)

// plain is P3.1 word by word, bit by bit.
func plain(b []byte) uint32 {
	register := uint32(0xffffffff)
	for _, next := range b {
		register ^= uint32(next)
		for range 8 {
			out := register & 1
			register >>= 1
			if out == 1 {
				register ^= 0xedb88320
			}
		}
	}
	return ^register
}

// many makes bytes of all kinds, the same ones each time.
func many(n int) []byte {
	b := make([]byte, n)
	state := uint32(1)
	for i := range b {
		state = state*1664525 + 1013904223
		b[i] = byte(state >> 24)
	}
	return b
}

// samples are texts of all short lengths and some greater ones.
func samples() [][]byte {
	list := [][]byte{nil, {}, {0}, {0, 0, 0, 0}, {0xff}, {0xff, 0xff, 0xff, 0xff}, []byte("123456789"), bytes.Repeat([]byte{0xff}, 32)}
	for n := range 70 {
		list = append(list, many(n))
	}
	return append(list, many(4096), many(api.MaxFile))
}

// spoil changes all of a list, with its spare room.
func spoil(b []byte) {
	b = b[:cap(b)]
	for i := range b {
		b[i] ^= 0xff
	}
}

func TestExample(t *testing.T) { // the chapter's example 1
	if got := Of([]byte("123456789")); got != 0xcbf43926 {
		t.Errorf("Of(`123456789`) = %08x", got)
	}
	if got := Of(nil); got != 0 {
		t.Errorf("Of(nothing) = %08x", got)
	}
}

func TestOf(t *testing.T) { // P3.1
	for _, c := range []struct {
		s    string
		want uint32
	}{
		{"", 0}, {"a", 0xe8b7be43}, {"abc", 0x352441c2}, {"\x00", 0xd202ef8d}, {"\xff", 0xff000000},
		{"\x00\x00\x00\x00", 0x2144df1c}, {"\xff\xff\xff\xff", 0xffffffff},
		{strings.Repeat("\x00", 32), 0x190a55ad}, {strings.Repeat("\xff", 32), 0xff6cab0b},
		{"The quick brown fox jumps over the lazy dog", 0x414fa339},
	} {
		if got := Of([]byte(c.s)); got != c.want {
			t.Errorf("Of(%q) = %08x, want %08x", c.s, got, c.want)
		}
	}
	for _, b := range samples() {
		if got, want := Of(b), plain(b); got != want {
			t.Errorf("Of %d bytes, %x..: %08x, want %08x", len(b), b[:min(8, len(b))], got, want)
		}
	}
}

func TestOfEachByte(t *testing.T) { // P3.1: all texts of two bytes
	for ahead := range 256 {
		for last := range 256 {
			b := []byte{byte(ahead), byte(last)}
			if got, want := Of(b), plain(b); got != want {
				t.Fatalf("Of(%x) = %08x, want %08x", b, got, want)
			}
		}
	}
}

func TestMore(t *testing.T) { // P3.1, and P3.3: the sum does not hang on the cut
	for _, b := range samples()[:60] {
		for cut := range len(b) + 1 {
			if got, want := More(Of(b[:cut]), b[cut:]), plain(b); got != want {
				t.Errorf("%x cut at %d: %08x, want %08x", b, cut, got, want)
			}
		}
	}
	whole := many(1000)
	for _, step := range []int{1, 2, 3, 7, 64, 999, 1000} {
		sum := uint32(0)
		for rest := whole; len(rest) > 0; rest = rest[min(step, len(rest)):] {
			sum = More(sum, nil)
			sum = More(sum, rest[:min(step, len(rest))])
		}
		if sum != plain(whole) {
			t.Errorf("by steps of %d: %08x, want %08x", step, sum, plain(whole))
		}
	}
}

func TestMoreOfAnySum(t *testing.T) { // P3.1: each number is the sum of some text
	for _, c := range []uint32{0, 1, 0x80000000, 0xcbf43926, 0xedb88320, math.MaxUint32} {
		if got := More(c, nil); got != c {
			t.Errorf("More(%08x, nothing) = %08x", c, got)
		}
		if got := More(c, []byte{}); got != c {
			t.Errorf("More(%08x, empty) = %08x", c, got)
		}
		text := textOf(c)
		if got := Of(text); got != c {
			t.Fatalf("the text %x of %08x has the sum %08x", text, c, got)
		}
		if got, want := More(c, []byte("xyz")), plain(append(text, "xyz"...)); got != want {
			t.Errorf("More(%08x, `xyz`) = %08x, want %08x", c, got, want)
		}
	}
}

// textOf finds the four bytes that have a sum, by moving the register up again.
func textOf(c uint32) []byte {
	register := ^c
	for range 32 {
		out := register >> 31
		if out == 1 {
			register ^= 0xedb88320
		}
		register = register<<1 | out
	}
	return Bytes(^register)
}

func TestBytes(t *testing.T) { // P3.2
	for _, c := range []struct {
		sum  uint32
		want string
	}{
		{0, "\x00\x00\x00\x00"}, {1, "\x01\x00\x00\x00"}, {0x01020304, "\x04\x03\x02\x01"}, {0x80000000, "\x00\x00\x00\x80"},
		{0xcbf43926, "\x26\x39\xf4\xcb"}, {math.MaxUint32, "\xff\xff\xff\xff"},
	} {
		if got := Bytes(c.sum); string(got) != c.want {
			t.Errorf("Bytes(%08x) = %x, want %x", c.sum, got, c.want)
		}
	}
}

func TestSeal(t *testing.T) { // P3.2
	for _, c := range []struct{ s, want string }{
		{"", "\x00\x00\x00\x00"}, {"a", "a\x43\xbe\xb7\xe8"}, {"123456789", "123456789\x26\x39\xf4\xcb"},
		{"\xff\xff\xff\xff", "\xff\xff\xff\xff\xff\xff\xff\xff"},
	} {
		if got := Seal([]byte(c.s)); string(got) != c.want {
			t.Errorf("Seal(%q) = %x, want %x", c.s, got, c.want)
		}
	}
}

func TestOpen(t *testing.T) { // P3.2
	for _, c := range []struct {
		b, want string
		err     api.Errno
	}{
		{"", "", api.ErrCut}, {"\x00", "", api.ErrCut}, {"\x00\x00", "", api.ErrCut}, {"\x00\x00\x00", "", api.ErrCut}, {"a\x43\xbe", "", api.ErrCut},
		{"\x00\x00\x00\x00", "", api.OK}, {"\x00\x00\x00\x01", "", api.ErrSum}, {"\x01\x00\x00\x00", "", api.ErrSum},
		{"\x00\x00\x00\x00\x00", "", api.ErrSum}, {"a\x43\xbe\xb7\xe8", "a", api.OK}, {"a\xe8\xb7\xbe\x43", "", api.ErrSum},
		{"b\x43\xbe\xb7\xe8", "", api.ErrSum}, {"a\x43\xbe\xb7", "", api.ErrSum}, {"a\x43\xbe\xb7\xe8\x00", "", api.ErrSum},
		{"\x43\xbe\xb7\xe8a", "", api.ErrSum}, {"123456789\x26\x39\xf4\xcb", "123456789", api.OK},
	} {
		got, err := Open([]byte(c.b))
		if string(got) != c.want || err != c.err || err != api.OK && got != nil {
			t.Errorf("Open(%x) = %x, %d, want %x, %d", c.b, got, int(err), c.want, int(c.err))
		}
	}
	if got, err := Open(nil); got != nil || err != api.ErrCut {
		t.Errorf("Open(nothing) = %x, %d", got, int(err))
	}
}

func TestOpenedAsSealed(t *testing.T) { // P3.2
	for _, b := range samples() {
		sealed := Seal(b)
		if len(sealed) != len(b)+4 || !bytes.Equal(sealed[:len(b)], b) || !bytes.Equal(sealed[len(b):], Bytes(Of(b))) {
			t.Errorf("Seal of %d bytes has %d", len(b), len(sealed))
		}
		if got, err := Open(sealed); err != api.OK || !bytes.Equal(got, b) {
			t.Errorf("Open(Seal) of %d bytes: %d bytes, %d", len(b), len(got), int(err))
		}
		twice := Seal(sealed)
		if got, err := Open(twice); err != api.OK || !bytes.Equal(got, sealed) {
			t.Errorf("Open(Seal(Seal)) of %d bytes: %d bytes, %d", len(b), len(got), int(err))
		}
	}
}

// turn turns the bits of a pattern from a place on, a byte's lowest bit first.
func turn(b []byte, place int, pattern uint32) []byte {
	b = bytes.Clone(b)
	for ; pattern != 0; pattern >>= 1 {
		b[place/8] ^= byte(pattern&1) << (place % 8)
		place++
	}
	return b
}

func TestTurned(t *testing.T) { // P3.3
	state := uint32(7)
	for _, text := range [][]byte{nil, {0}, []byte("a"), []byte("\xff\xff\xff\xff"), []byte("a text of records")} {
		sealed := Seal(text)
		bits := 8 * len(sealed)
		for place := range bits {
			widest := min(31, bits-place)
			for width := 1; width <= widest; width++ {
				ends := uint32(1)<<(width-1) | 1
				for range 20 {
					state = state*1664525 + 1013904223
					pattern := state>>1&(1<<width-1) | ends
					if got, err := Open(turn(sealed, place, pattern)); err != api.ErrSum || got != nil {
						t.Fatalf("%x, turned at %d by %x: %x, %d", sealed, place, pattern, got, int(err))
					}
				}
				if _, err := Open(turn(sealed, place, 1<<width-1)); err != api.ErrSum {
					t.Fatalf("%x, all of %d bits turned at %d: %d", sealed, width, place, int(err))
				}
			}
		}
	}
}

func TestOneByteTurned(t *testing.T) { // P3.3: the sum's own bytes with them
	sealed := Seal(many(40))
	for i := range sealed {
		for by := 1; by < 256; by++ {
			b := bytes.Clone(sealed)
			b[i] ^= byte(by)
			if got, err := Open(b); err != api.ErrSum || got != nil {
				t.Fatalf("byte %d turned by %02x: %x, %d", i, by, got, int(err))
			}
		}
	}
}

func TestNewMemory(t *testing.T) { // P3.2
	const room = 64
	b := append(make([]byte, 0, room), "abc"...)
	spoil(Seal(b))
	if string(b) != "abc" || !bytes.Equal(b[:cap(b)][3:], make([]byte, room-3)) {
		t.Fatalf("Seal shares memory with its text: %x", b[:cap(b)])
	}
	sealed := append(make([]byte, 0, room), Seal(b)...)
	want := bytes.Clone(sealed[:cap(sealed)])
	got, _ := Open(sealed)
	spoil(got)
	if !bytes.Equal(sealed[:cap(sealed)], want) {
		t.Fatalf("Open shares memory with its text: %x", sealed[:cap(sealed)])
	}
	empty := Seal(nil)
	got, _ = Open(empty)
	spoil(got)
	if !bytes.Equal(empty, make([]byte, 4)) {
		t.Errorf("Open of an empty text shares memory: %x", empty)
	}
	first, second := Bytes(5), Bytes(5)
	spoil(first)
	if string(second) != "\x05\x00\x00\x00" || !bytes.Equal(Bytes(5), second) {
		t.Errorf("two answers share memory: %x", second)
	}
}

func TestArgumentStays(t *testing.T) {
	b := Seal(many(50))
	want := bytes.Clone(b)
	Of(b)
	More(7, b)
	Seal(b)
	Open(b)
	Open(b[:3])
	Open(b[:20])
	if !bytes.Equal(b, want) {
		t.Errorf("an argument was changed: %x", b)
	}
}

func FuzzOpen(f *testing.F) { // P3.2: what is opened is what was sealed, and nothing else is
	f.Add([]byte(""))
	f.Add([]byte("\x00\x00\x00\x00"))
	f.Add([]byte("a\x43\xbe\xb7\xe8"))
	f.Fuzz(func(t *testing.T, b []byte) {
		if Of(b) != plain(b) {
			t.Fatalf("Of(%x) = %08x, want %08x", b, Of(b), plain(b))
		}
		got, err := Open(b)
		switch {
		case err == api.OK:
			if !bytes.Equal(Seal(got), b) {
				t.Fatalf("Open(%x) = %x", b, got)
			}
		case err == api.ErrCut:
			if len(b) >= 4 || got != nil {
				t.Fatalf("Open(%x) = %x, ErrCut", b, got)
			}
		default:
			if err != api.ErrSum || len(b) < 4 || got != nil || bytes.Equal(Seal(b[:len(b)-4]), b) {
				t.Fatalf("Open(%x) = %x, %d", b, got, int(err))
			}
		}
	})
}
