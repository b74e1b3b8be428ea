package roll

import (
	"bytes"
	"math"
	"testing"
	"time"
)

// plainParts is the chapter's pair word by word: each byte times how often it counts.
func plainParts(b []byte) (all, counted uint64) {
	n := len(b)
	for i, c := range b {
		all += uint64(c)
		counted += uint64(n-i) * uint64(c)
	}
	return all % 65536, counted % 65536
}

// plain is the sum of both.
func plain(b []byte) uint32 {
	all, counted := plainParts(b)
	return uint32(65536*counted + all)
}

// many makes bytes of all kinds, the same ones each time.
func many(n int) []byte {
	b := make([]byte, n)
	state := uint32(1)
	for i := range b {
		state = state*1664525 + 1013904223
		b[i] = byte(state >> 24)
	}
	return b
}

// full makes bytes of which each is the greatest.
func full(n int) []byte {
	return bytes.Repeat([]byte{0xff}, n)
}

// samples are texts of all short lengths, and of those about which a part comes round.
func samples() [][]byte {
	list := [][]byte{nil, {}, {0}, {0xff}, {0, 0, 0}, {1, 0, 0}, {0, 0, 1}, make([]byte, 70000)}
	for n := range 40 {
		list = append(list, many(n), full(n))
	}
	for _, n := range []int{255, 256, 257, 258, 362, 363, 4096, 65535, 65536, 65537, 70000, 1 << 18} {
		list = append(list, many(n), full(n))
	}
	return list
}

// spoil changes all of a list, with its spare room.
func spoil(b []byte) {
	b = b[:cap(b)]
	for i := range b {
		b[i] ^= 0xff
	}
}

// roomy tells a copy with spare room behind it.
func roomy(b []byte) []byte {
	return append(make([]byte, 0, len(b)+100), b...)
}

// check holds a window against the bytes that it is to have.
func check(t *testing.T, what string, w *Window, want []byte) {
	t.Helper()
	if got := w.Bytes(); !bytes.Equal(got, want) || w.Len() != len(want) {
		t.Fatalf("%s: %d bytes, %.40x, want %d, %.40x", what, w.Len(), got, len(want), want)
	}
	if got := w.Sum(); got != plain(want) || got != Sum(want) {
		t.Fatalf("%s: of %d bytes %08x, want %08x", what, len(want), got, plain(want))
	}
}

func TestExample(t *testing.T) { // the chapter's example 1
	b := []byte{1, 2, 3}
	if Pair(b) != 6+10i || Sum(b) != 0x000a0006 {
		t.Errorf("Pair = %v, Sum = %08x", Pair(b), Sum(b))
	}
	w := New(b)
	if !w.Roll(4) || w.Sum() != 0x00100009 || Sum([]byte{2, 3, 4}) != 0x00100009 {
		t.Errorf("rolled: %08x, want %08x", w.Sum(), Sum([]byte{2, 3, 4}))
	}
}

func TestPair(t *testing.T) { // P6.1
	for _, c := range []struct {
		b    []byte
		want complex128
	}{
		{nil, 0}, {[]byte{}, 0}, {[]byte{0}, 0}, {[]byte{5}, 5 + 5i}, {[]byte{255}, 255 + 255i},
		{[]byte{1, 0}, 1 + 2i}, {[]byte{0, 1}, 1 + 1i}, {[]byte{2, 1}, 3 + 5i}, {[]byte{1, 2}, 3 + 4i},
		{full(257), 65535 + 65407i}, {full(258), 254 + 125i}, {bytes.Repeat([]byte{1}, 65536), 32768i},
	} {
		if got := Pair(c.b); got != c.want {
			t.Errorf("Pair of %d bytes, %.20x: %v, want %v", len(c.b), c.b, got, c.want)
		}
	}
	for _, b := range samples() {
		all, counted := plainParts(b)
		got := Pair(b)
		if got != complex(float64(all), float64(counted)) {
			t.Errorf("Pair of %d bytes, %.20x: %v, want %d and %d", len(b), b, got, all, counted)
		}
		if math.Signbit(real(got)) || math.Signbit(imag(got)) {
			t.Errorf("Pair of %d bytes has a minus: %v", len(b), got)
		}
	}
}

// packed are parts, and what Pack makes of each of them; alone tells whether the part makes all of it 0.
var packed = []struct {
	part  float64
	want  uint32
	alone bool
}{
	{0, 0, false}, {math.Copysign(0, -1), 0, false}, {1, 1, false}, {-1, 65535, false}, {-2, 65534, false},
	{65535, 65535, false}, {65536, 0, false}, {65537, 1, false}, {-65535, 1, false}, {-65536, 0, false}, {-65537, 65535, false},
	{1<<32 + 7, 7, false}, {-1<<32 - 7, 65529, false}, {1<<31 - 1, 65535, false}, {-1 << 31, 0, false},
	{1 << 50, 0, false}, {1<<50 - 1, 65535, false}, {-1 << 50, 0, false}, {-1<<50 + 1, 1, false},
	{1<<50 + 1, 0, true}, {1<<50 + 0.25, 0, true}, {1<<50 - 0.125, 0, true}, {-1<<50 - 1, 0, true}, {-1<<50 - 0.25, 0, true}, {-1<<50 + 0.125, 0, true},
	{1<<51 + 1, 0, true}, {1<<53 + 2, 0, true}, {-1 << 60, 0, true}, {1 << 63, 0, true}, {1 << 64, 0, true}, {-1 << 63, 0, true}, {-1 << 64, 0, true},
	{0.5, 0, true}, {-0.5, 0, true}, {1.5, 0, true}, {-1.5, 0, true}, {65535.75, 0, true}, {1e-300, 0, true}, {-1e-300, 0, true},
	{math.SmallestNonzeroFloat64, 0, true}, {math.Nextafter(1, 0), 0, true}, {math.Nextafter(1, 2), 0, true},
	{math.MaxFloat64, 0, true}, {-math.MaxFloat64, 0, true}, {math.Inf(1), 0, true}, {math.Inf(-1), 0, true}, {math.NaN(), 0, true},
}

func TestPack(t *testing.T) { // P6.1
	for _, a := range packed {
		for _, b := range packed {
			want := 65536*b.want + a.want
			if a.alone || b.alone {
				want = 0
			}
			if got := Pack(complex(a.part, b.part)); got != want {
				t.Errorf("Pack of %v and %v: %08x, want %08x", a.part, b.part, got, want)
			}
		}
	}
	for n := -200000; n <= 200000; n++ {
		want := uint32((n%65536 + 65536) % 65536)
		if got := Pack(complex(float64(n), 0)); got != want {
			t.Fatalf("Pack of %d and 0: %08x, want %08x", n, got, want)
		}
		if got := Pack(complex(0, float64(n))); got != 65536*want {
			t.Fatalf("Pack of 0 and %d: %08x, want %08x", n, got, 65536*want)
		}
	}
}

func TestSum(t *testing.T) { // P6.1
	for _, c := range []struct {
		b    []byte
		want uint32
	}{
		{nil, 0}, {[]byte{}, 0}, {[]byte{0}, 0}, {[]byte{255}, 0x00ff00ff}, {[]byte{1, 2}, 0x00040003}, {[]byte{2, 1}, 0x00050003},
		{[]byte("abc"), 0x024a0126}, {full(257), 0xff7fffff}, {full(258), 0x007d00fe},
	} {
		if got := Sum(c.b); got != c.want {
			t.Errorf("Sum of %d bytes, %.20x: %08x, want %08x", len(c.b), c.b, got, c.want)
		}
	}
	for _, b := range samples() {
		if got := Sum(b); got != plain(b) || got != Pack(Pair(b)) {
			t.Errorf("Sum of %d bytes, %.20x: %08x, want %08x", len(b), b, got, plain(b))
		}
	}
}

func TestNew(t *testing.T) { // P6.2
	for _, b := range samples() {
		w := New(b)
		if w == nil {
			t.Fatalf("New of %d bytes is nil", len(b))
		}
		check(t, "new", w, b)
		check(t, "new, asked twice", w, b)
	}
}

func TestIn(t *testing.T) { // P6.2
	for _, first := range [][]byte{nil, {7}, full(300)} {
		w, want := New(first), bytes.Clone(first)
		for _, c := range append(many(600), full(600)...) {
			w.In(c)
			want = append(want, c)
			check(t, "in", w, want)
		}
	}
}

func TestOut(t *testing.T) { // P6.2
	for _, b := range [][]byte{nil, {0}, {0xff}, many(2), many(700), full(700), make([]byte, 9)} {
		w := New(b)
		for i, want := range b {
			if c, ok := w.Out(); c != want || !ok {
				t.Fatalf("Out of %d bytes, the %d. time: %d, %v, want %d", len(b), i, c, ok, want)
			}
			check(t, "out", w, b[i+1:])
		}
		for range 3 {
			if c, ok := w.Out(); c != 0 || ok {
				t.Fatalf("Out of none: %d, %v", c, ok)
			}
			check(t, "out of none", w, nil)
		}
		w.In(9)
		check(t, "in again", w, []byte{9})
		if c, ok := w.Out(); c != 9 || !ok {
			t.Fatalf("Out again: %d, %v", c, ok)
		}
	}
}

func TestRoll(t *testing.T) { // P6.2
	whole := append(many(1500), full(1500)...)
	for _, n := range []int{1, 2, 3, 16, 255, 256, 257, 700} {
		w := New(whole[:n])
		for i, c := range whole[n:] {
			if !w.Roll(c) {
				t.Fatalf("a window of %d does not roll", n)
			}
			check(t, "rolled", w, whole[i+1:i+1+n])
		}
	}
	w := New(nil)
	for range 3 {
		if w.Roll(1) {
			t.Fatal("a window of none rolls")
		}
		check(t, "rolled over none", w, nil)
	}
	w.In(5)
	if !w.Roll(6) {
		t.Fatal("a window of a byte does not roll")
	}
	check(t, "rolled over one", w, []byte{6})
}

func TestGreatWindow(t *testing.T) { // P6.2: the first byte of a long window counts so often that the parts come round many times
	const size = 1 << 20
	whole := append(full(size), many(64)...)
	w := New(whole[:size])
	for i, c := range whole[size:] {
		w.Roll(c)
		if got, want := w.Sum(), plain(whole[i+1:i+1+size]); got != want {
			t.Fatalf("rolled %d times: %08x, want %08x", i+1, got, want)
		}
	}
}

func TestNil(t *testing.T) { // P6.2
	var w *Window
	w.In(1)
	if c, ok := w.Out(); c != 0 || ok {
		t.Errorf("Out = %d, %v", c, ok)
	}
	if w.Roll(1) || w.Sum() != 0 || w.Len() != 0 || w.Bytes() != nil || w.Fork() != nil {
		t.Error("a window that is nil tells something")
	}
}

func TestFork(t *testing.T) { // P6.2
	for _, taken := range []int{0, 1, 5, 12, 20} {
		first := many(20)
		w, left := New(first), first[taken:]
		for range taken {
			w.Out()
		}
		fork := w.Fork()
		check(t, "a fork", fork, left)
		w.In(1)
		fork.In(2)
		fork.In(3)
		w.In(4)
		mine, its := append(bytes.Clone(left), 1, 4), append(bytes.Clone(left), 2, 3)
		check(t, "what was forked", w, mine)
		check(t, "a fork that went on", fork, its)
		for i := range its {
			fork.Out()
			check(t, "a fork that goes out", fork, its[i+1:])
			check(t, "what was forked, as the fork goes out", w, mine)
		}
		again := w.Fork().Fork()
		w.Roll(9)
		check(t, "a fork of a fork", again, mine)
		check(t, "what was forked twice", w, append(bytes.Clone(mine[1:]), 9))
	}
}

func TestBytesOnly(t *testing.T) { // P6.3: ways to the same bytes, the same sum
	want := many(50)
	byIn := New(nil)
	for _, c := range want {
		byIn.In(c)
	}
	byOut := New(append(full(5000), want...))
	for range 5000 {
		byOut.Out()
	}
	byRoll := New(full(50))
	for _, c := range append(many(100000), want...) {
		byRoll.Roll(c)
	}
	emptied := New(full(300))
	for range 301 {
		emptied.Out()
	}
	for _, c := range want {
		emptied.In(c)
	}
	grown := New(want[:10])
	for range 10 { // more than it has, and less again
		for _, c := range full(100) {
			grown.In(c)
		}
		for grown.Len() > 3 {
			grown.Out()
		}
	}
	for _, c := range want {
		grown.In(c)
	}
	for grown.Len() > len(want) {
		grown.Out()
	}
	for name, w := range map[string]*Window{"in": byIn, "out": byOut, "roll": byRoll, "emptied": emptied, "grown": grown, "fork": byRoll.Fork()} {
		check(t, name, w, want)
	}
}

func TestFewSteps(t *testing.T) { // P6.3: what went over the whole window for each byte would take hours
	const size, patience = 1 << 20, 30 * time.Second
	began := time.Now()
	w := New(full(size))
	each := func(what string, step func(c byte)) {
		for i := range size {
			step(byte(i))
			w.Sum()
			w.Len()
			if i%1024 == 0 && time.Since(began) > patience {
				t.Fatalf("%s: %d of %d bytes, and the time is over", what, i, size)
			}
		}
	}
	each("in", w.In)
	each("roll", func(c byte) { w.Roll(c) })
	each("out", func(byte) { w.Out() })
	each("roll", func(c byte) { w.Roll(c) })
	want := make([]byte, size)
	for i := range want {
		want[i] = byte(i)
	}
	check(t, "behind all steps", w, want)
}

func TestHeldInBounds(t *testing.T) { // what is gone is not kept
	w := New(many(10))
	for i := range 100000 {
		w.Roll(byte(i))
		if cap(w.held) > 200 {
			t.Fatalf("10 bytes, rolled %d times, hold %d", i+1, cap(w.held))
		}
	}
	w = New(many(100000))
	for w.Len() > 10 {
		w.Out()
	}
	if cap(w.held) > 200 {
		t.Errorf("10 bytes that are left hold %d", cap(w.held))
	}
}

func TestArguments(t *testing.T) { // not changed and not kept, and answers are new memory
	for _, n := range []int{0, 1, 20, 600} {
		b := roomy(many(n))
		want := bytes.Clone(b[:cap(b)])
		Sum(b)
		Pair(b)
		w := New(b)
		w.In(1)
		w.Roll(2)
		w.Out()
		w.Out()
		if !bytes.Equal(b[:cap(b)], want) {
			t.Errorf("of %d bytes, the argument was changed", n)
		}
		w = New(b)
		spoil(b)
		check(t, "its argument spoilt", w, many(n))
		spoil(w.Bytes())
		check(t, "its answer spoilt", w, many(n))
		w.Out()
		w.In(8)
		told := w.Bytes()
		kept := bytes.Clone(told)
		w.Roll(7)
		w.In(6)
		if !bytes.Equal(told, kept) {
			t.Errorf("of %d bytes, the answer goes on with the window", n)
		}
	}
	w := New([]byte{1, 2, 3})
	w.Out()
	told := w.Bytes()
	w.In(4) // in what may be room behind the answer
	spoil(told)
	check(t, "an answer's spare room spoilt", w, []byte{2, 3, 4})
	for w.Len() > 0 {
		w.Out()
	}
	spoil(w.Bytes())
	check(t, "an empty answer spoilt", w, nil)
}

func TestApart(t *testing.T) { // two windows have nothing in common
	b := []byte{1, 2, 3}
	one, other := New(b), New(b)
	one.Roll(9)
	one.In(8)
	check(t, "one", one, []byte{2, 3, 9, 8})
	check(t, "the other", other, b)
}

func FuzzWindow(f *testing.F) { // P6.2, P6.3: steps beside a plain list
	f.Add([]byte{1, 2, 3}, []byte{0, 4, 1, 2, 7, 3})
	f.Add(full(300), []byte{1, 1, 1, 1, 2, 255, 2, 255, 3, 0, 9})
	f.Add([]byte(nil), many(400))
	f.Fuzz(func(t *testing.T, first, steps []byte) {
		w, want := New(first), bytes.Clone(first)
		for i, step := range steps {
			c := steps[(i+1)%len(steps)]
			switch step % 4 {
			case 0:
				w.In(c)
				want = append(want, c)
			case 1:
				got, ok := w.Out()
				if ok != (len(want) > 0) || ok && got != want[0] || !ok && got != 0 {
					t.Fatalf("Out of %x: %d, %v", want, got, ok)
				}
				want = want[min(1, len(want)):]
			case 2:
				if w.Roll(c) != (len(want) > 0) {
					t.Fatalf("Roll of %x", want)
				}
				if len(want) > 0 {
					want = append(want[1:], c)
				}
			case 3:
				left := w
				w = w.Fork()
				left.Roll(c ^ 0xff)
				left.In(c)
			}
			check(t, "a step", w, want)
		}
	})
}

func FuzzPack(f *testing.F) { // P6.1
	f.Add(6.0, 10.0)
	f.Add(-1.0, 65536.0)
	f.Add(0.5, math.Inf(1))
	f.Fuzz(func(t *testing.T, a, b float64) {
		var want uint32
		if math.Trunc(a) == a && math.Abs(a) <= 1<<50 && math.Trunc(b) == b && math.Abs(b) <= 1<<50 {
			want = 65536*uint32(math.Mod(math.Mod(b, 65536)+65536, 65536)) + uint32(math.Mod(math.Mod(a, 65536)+65536, 65536))
		}
		if got := Pack(complex(a, b)); got != want {
			t.Fatalf("Pack of %v and %v: %08x, want %08x", a, b, got, want)
		}
	})
}
