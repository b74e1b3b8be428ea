package varint

import (
	"bytes"
	"math"
	"testing"

	"sumpter/api"
)

// unhex is written here so that the tests lean on nothing of the program.
func unhex(t *testing.T, text string) []byte {
	t.Helper()
	var b []byte
	high, half := byte(0), false
	for _, c := range []byte(text) {
		var digit byte
		switch {
		case c == ' ':
			continue
		case c >= '0' && c <= '9':
			digit = c - '0'
		case c >= 'a' && c <= 'f':
			digit = c - 'a' + 10
		default:
			t.Fatalf("%q is not hex", text)
		}
		if half {
			b = append(b, high<<4|digit)
		} else {
			high = digit
		}
		half = !half
	}
	if half {
		t.Fatalf("%q has half a byte", text)
	}
	return b
}

// roomOf is told as numbers, not by a rule, so that a wrong rule in the program shows.
func roomOf(width int) int {
	switch width {
	case 1:
		return 64
	case 2:
		return 16384
	case 4:
		return 1073741824
	case 8:
		return 4611686018427387904
	}
	return 0
}

// sampleNumbers are all the small ones, those around each power of two, and a spread of others; all of them are of the wire.
func sampleNumbers() []int {
	seen := map[int]int{}
	var numbers []int
	add := func(n int) {
		if n >= 0 && n <= api.MaxVar && seen[n] == 0 {
			seen[n] = 1
			numbers = append(numbers, n)
		}
	}
	for n := range 20000 {
		add(n)
	}
	for bit := range 63 {
		for off := -3; off <= 3; off++ {
			add(1<<bit + off)
		}
	}
	x := uint64(1)
	for i := range 5000 {
		x = x*6364136223846793005 + 1442695040888963407
		add(int(x >> (2 + i%60)))
	}
	return numbers
}

func TestLen(t *testing.T) { // P1.1
	for _, c := range []struct{ n, want int }{
		{0, 1}, {1, 1}, {37, 1}, {62, 1}, {63, 1},
		{64, 2}, {65, 2}, {255, 2}, {256, 2}, {15293, 2}, {16382, 2}, {16383, 2},
		{16384, 4}, {16385, 4}, {65535, 4}, {65536, 4}, {494878333, 4}, {1<<30 - 2, 4}, {1<<30 - 1, 4},
		{1 << 30, 8}, {1<<30 + 1, 8}, {1 << 31, 8}, {1 << 32, 8}, {1 << 40, 8}, {1<<62 - 2, 8}, {1<<62 - 1, 8}, {api.MaxVar, 8},
		{1 << 62, 0}, {1<<62 + 1, 0}, {api.MaxVar + 1, 0}, {math.MaxInt - 1, 0}, {math.MaxInt, 0},
		{-1, 0}, {-2, 0}, {-63, 0}, {-64, 0}, {-1 << 30, 0}, {-1 << 62, 0}, {math.MinInt + 1, 0}, {math.MinInt, 0},
	} {
		if got := Len(c.n); got != c.want {
			t.Errorf("Len(%d) = %d, want %d", c.n, got, c.want)
		}
	}
}

func TestPut(t *testing.T) { // P1.2
	for _, c := range []struct {
		n    int
		want string
	}{
		{0, "00"}, {1, "01"}, {37, "25"}, {63, "3f"},
		{64, "40 40"}, {255, "40 ff"}, {256, "41 00"}, {15293, "7b bd"}, {16383, "7f ff"},
		{16384, "80 00 40 00"}, {65536, "80 01 00 00"}, {494878333, "9d 7f 3e 7d"}, {1<<30 - 1, "bf ff ff ff"},
		{1 << 30, "c0 00 00 00 40 00 00 00"}, {1 << 32, "c0 00 00 01 00 00 00 00"},
		{151288809941952652, "c2 19 7c 5e ff 14 e8 8c"}, {1<<62 - 1, "ff ff ff ff ff ff ff ff"},
	} {
		got, err := Put(c.n)
		if want := unhex(t, c.want); !bytes.Equal(got, want) || err != api.OK {
			t.Errorf("Put(%d) = %x, %d, want %x", c.n, got, int(err), want)
		}
	}
}

func TestPutRefuses(t *testing.T) { // P1.2
	for _, n := range []int{-1, -64, -1 << 62, math.MinInt, 1 << 62, 1<<62 + 1, math.MaxInt} {
		if got, err := Put(n); len(got) != 0 || err != api.ErrRange {
			t.Errorf("Put(%d) = %x, %d, want ErrRange", n, got, int(err))
		}
	}
}

func TestPutIn(t *testing.T) { // P1.2
	for _, c := range []struct {
		n, width int
		want     string
	}{
		{0, 1, "00"}, {0, 2, "40 00"}, {0, 4, "80 00 00 00"}, {0, 8, "c0 00 00 00 00 00 00 00"},
		{37, 1, "25"}, {37, 2, "40 25"}, {37, 4, "80 00 00 25"}, {37, 8, "c0 00 00 00 00 00 00 25"},
		{63, 1, "3f"}, {64, 2, "40 40"}, {16383, 2, "7f ff"}, {16383, 4, "80 00 3f ff"},
		{16384, 4, "80 00 40 00"}, {16384, 8, "c0 00 00 00 00 00 40 00"},
		{1<<30 - 1, 4, "bf ff ff ff"}, {1<<30 - 1, 8, "c0 00 00 00 3f ff ff ff"},
		{1 << 30, 8, "c0 00 00 00 40 00 00 00"}, {1<<62 - 1, 8, "ff ff ff ff ff ff ff ff"},
	} {
		got, err := PutIn(c.n, c.width)
		if want := unhex(t, c.want); !bytes.Equal(got, want) || err != api.OK {
			t.Errorf("PutIn(%d, %d) = %x, %d, want %x", c.n, c.width, got, int(err), want)
		}
	}
}

func TestPutInNoRoom(t *testing.T) { // P1.2
	for _, width := range []int{1, 2, 4, 8} {
		for _, n := range []int{roomOf(width), roomOf(width) + 1, math.MaxInt, -1, -37, -roomOf(width), math.MinInt} {
			if got, err := PutIn(n, width); len(got) != 0 || err != api.ErrRange {
				t.Errorf("PutIn(%d, %d) = %x, %d, want ErrRange", n, width, got, int(err))
			}
		}
	}
}

func TestPutInWrongWidth(t *testing.T) { // P1.2: ErrArg is named first, so it stands where the number is wrong, too
	widths := []int{-8, -4, -2, -1, 0, 3, 5, 6, 7, 9, 10, 16, 32, 64, 257, 1 << 32, 1<<32 + 1, math.MaxInt, math.MinInt}
	for _, width := range widths {
		for _, n := range []int{0, 1, 63, 64, 1<<62 - 1, 1 << 62, math.MaxInt, -1, math.MinInt} {
			if got, err := PutIn(n, width); len(got) != 0 || err != api.ErrArg {
				t.Errorf("PutIn(%d, %d) = %x, %d, want ErrArg", n, width, got, int(err))
			}
		}
	}
}

func TestGet(t *testing.T) { // P1.3
	for _, c := range []struct {
		b       string
		n, used int
	}{
		{"00", 0, 1}, {"25", 37, 1}, {"3f", 63, 1}, {"25 ff ff", 37, 1},
		{"40 00", 0, 2}, {"40 25", 37, 2}, {"7b bd", 15293, 2}, {"7f ff", 16383, 2}, {"7b bd c0", 15293, 2},
		{"80 00 00 00", 0, 4}, {"80 00 00 25", 37, 4}, {"9d 7f 3e 7d", 494878333, 4}, {"bf ff ff ff", 1<<30 - 1, 4}, {"9d 7f 3e 7d 00", 494878333, 4},
		{"c0 00 00 00 00 00 00 00", 0, 8}, {"c0 00 00 00 00 00 00 25", 37, 8}, {"c0 00 00 00 80 00 00 00", 1 << 31, 8},
		{"c2 19 7c 5e ff 14 e8 8c", 151288809941952652, 8}, {"ff ff ff ff ff ff ff ff", 1<<62 - 1, 8}, {"ff ff ff ff ff ff ff ff ff", 1<<62 - 1, 8},
	} {
		n, used, err := Get(unhex(t, c.b))
		if n != c.n || used != c.used || err != api.OK {
			t.Errorf("Get(%s) = %d, %d, %d, want %d, %d", c.b, n, used, int(err), c.n, c.used)
		}
	}
}

func TestCutOff(t *testing.T) { // P1.3
	for first := range 256 {
		whole := [4]int{1, 2, 4, 8}[first/64]
		for have := range whole {
			b := bytes.Repeat([]byte{byte(first)}, have)
			for name, read := range map[string]func([]byte) (int, int, api.Errno){"Get": Get, "Shortest": Shortest} {
				if n, used, err := read(b); n != 0 || used != 0 || err != api.ErrCut {
					t.Errorf("%s(%x) = %d, %d, %d, want ErrCut", name, b, n, used, int(err))
				}
			}
		}
	}
	for name, read := range map[string]func([]byte) (int, int, api.Errno){"Get": Get, "Shortest": Shortest} {
		if n, used, err := read(nil); n != 0 || used != 0 || err != api.ErrCut {
			t.Errorf("%s(nil) = %d, %d, %d, want ErrCut", name, n, used, int(err))
		}
	}
	room := []byte{0x40, 0x25}
	if _, _, err := Get(room[:1]); err != api.ErrCut {
		t.Errorf("Get read a byte of the spare room: %d", int(err))
	}
}

func TestShortest(t *testing.T) { // P1.3
	for _, c := range []struct {
		b       string
		n, used int
		err     api.Errno
	}{
		{"00", 0, 1, api.OK}, {"25", 37, 1, api.OK}, {"3f", 63, 1, api.OK}, {"25 40", 37, 1, api.OK},
		{"40 40", 64, 2, api.OK}, {"7b bd 00", 15293, 2, api.OK}, {"7f ff", 16383, 2, api.OK},
		{"80 00 40 00", 16384, 4, api.OK}, {"bf ff ff ff", 1<<30 - 1, 4, api.OK},
		{"c0 00 00 00 40 00 00 00", 1 << 30, 8, api.OK}, {"ff ff ff ff ff ff ff ff 00", 1<<62 - 1, 8, api.OK},
		{"40 00", 0, 0, api.ErrForm}, {"40 25", 0, 0, api.ErrForm}, {"40 3f", 0, 0, api.ErrForm}, {"40 25 00", 0, 0, api.ErrForm},
		{"80 00 00 00", 0, 0, api.ErrForm}, {"80 00 00 3f", 0, 0, api.ErrForm}, {"80 00 00 40", 0, 0, api.ErrForm}, {"80 00 3f ff", 0, 0, api.ErrForm},
		{"c0 00 00 00 00 00 00 00", 0, 0, api.ErrForm}, {"c0 00 00 00 00 00 3f ff", 0, 0, api.ErrForm},
		{"c0 00 00 00 00 00 40 00", 0, 0, api.ErrForm}, {"c0 00 00 00 3f ff ff ff", 0, 0, api.ErrForm},
	} {
		n, used, err := Shortest(unhex(t, c.b))
		if n != c.n || used != c.used || err != c.err {
			t.Errorf("Shortest(%s) = %d, %d, %d, want %d, %d, %d", c.b, n, used, int(err), c.n, c.used, int(c.err))
		}
	}
}

func TestReadAsPut(t *testing.T) { // P1.4, in whatever width, with and without bytes behind
	for _, n := range sampleNumbers() {
		least := 0
		for _, width := range []int{1, 2, 4, 8} {
			if n >= roomOf(width) {
				continue
			}
			b, err := PutIn(n, width)
			if err != api.OK || len(b) != width {
				t.Fatalf("PutIn(%d, %d) = %x, %d", n, width, b, int(err))
			}
			for _, behind := range []string{"", "\x00", "\xff\xff"} {
				m, used, err := Get(append(bytes.Clone(b), behind...))
				if m != n || used != width || err != api.OK {
					t.Fatalf("Get(%x..) = %d, %d, %d, want %d, %d", b, m, used, int(err), n, width)
				}
			}
			m, used, err := Shortest(b)
			if least == 0 {
				least = width
				if short, _ := Put(n); Len(n) != width || !bytes.Equal(short, b) || m != n || used != width || err != api.OK {
					t.Fatalf("%d in its least width: Len %d, Put %x, Shortest %d, %d, %d", n, Len(n), short, m, used, int(err))
				}
			} else if m != 0 || used != 0 || err != api.ErrForm {
				t.Fatalf("Shortest(%x) = %d, %d, %d, want ErrForm", b, m, used, int(err))
			}
		}
	}
}

func TestUnlikeBytes(t *testing.T) { // P1.4
	numbers := map[string]int{}
	for _, n := range sampleNumbers() {
		for _, width := range []int{1, 2, 4, 8} {
			b, err := PutIn(n, width)
			if err != api.OK {
				continue
			}
			if other, ok := numbers[string(b)]; ok && other != n {
				t.Fatalf("%d and %d are both %x", n, other, b)
			}
			numbers[string(b)] = n
		}
	}
}

func TestNothingShared(t *testing.T) { // an argument is not changed; an answer is new memory, with its spare room
	b := unhex(t, "7b bd 01 02")
	before := bytes.Clone(b)
	Get(b)
	Shortest(b)
	if !bytes.Equal(b, before) {
		t.Errorf("the argument was changed: %x", b)
	}
	for _, n := range []int{0, 64, 16384, 1 << 30} {
		one, _ := Put(n)
		two, _ := Put(n)
		whole := bytes.Clone(two)
		one = one[:cap(one)]
		for i := range one {
			one[i] ^= 0xff
		}
		again, _ := Put(n)
		if !bytes.Equal(two, whole) || !bytes.Equal(again, whole) {
			t.Errorf("two answers of Put(%d) share memory", n)
		}
	}
}

func FuzzRead(f *testing.F) {
	for _, seed := range []string{"", "\x25", "\x40\x25", "\x7b\xbd", "\x9d\x7f\x3e\x7d", "\xc2\x19\x7c\x5e\xff\x14\xe8\x8c", "\xff\xff\xff"} {
		f.Add([]byte(seed))
	}
	f.Fuzz(func(t *testing.T, b []byte) {
		n, used, err := Get(b)
		if err != api.OK {
			if err != api.ErrCut || n != 0 || used != 0 {
				t.Fatalf("Get(%x) = %d, %d, %d", b, n, used, int(err))
			}
			return
		}
		again, err := PutIn(n, used)
		if err != api.OK || !bytes.Equal(again, b[:used]) {
			t.Fatalf("%x was read as %d, which is %x, %d", b, n, again, int(err))
		}
		short, shortUsed, err := Shortest(b)
		if least := Len(n) == used; least != (err == api.OK) || least && (short != n || shortUsed != used) {
			t.Fatalf("Shortest(%x) = %d, %d, %d, Get tells %d, %d", b, short, shortUsed, int(err), n, used)
		}
	})
}
