package field

import (
	"bytes"
	"math"
	"strings"
	"testing"

	"sumpter/api"
)

// call is one taking off; want is what it answers, whatever its type.
type call struct {
	name string
	do   func(r *Reader) any
	want any
	err  api.Errno
	left int
}

func num(most, want int, err api.Errno, left int) call {
	return call{"Num", func(r *Reader) any { return r.Num(most) }, want, err, left}
}

func text(most int, want string, err api.Errno, left int) call {
	return call{"Text", func(r *Reader) any { return r.Text(most) }, want, err, left}
}

func raw(n int, want string, err api.Errno, left int) call {
	return call{"Raw", func(r *Reader) any { return r.Raw(n) }, want, err, left}
}

func one(want byte, err api.Errno, left int) call {
	return call{"Byte", func(r *Reader) any { return r.Byte() }, want, err, left}
}

// play does the calls on one reader, and asks the reader behind each of them.
func play(t *testing.T, b string, calls ...call) {
	t.Helper()
	r := New([]byte(b))
	if r == nil || r.Err() != api.OK || r.Left() != len(b) {
		t.Fatalf("New(%x): Err %d, Left %d", b, int(r.Err()), r.Left())
	}
	for i, c := range calls {
		if got := c.do(r); got != c.want || r.Err() != c.err || r.Left() != c.left {
			t.Fatalf("%x, call %d, %s: %#v, Err %d, Left %d, want %#v, %d, %d", b, i, c.name, got, int(r.Err()), r.Left(), c.want, int(c.err), c.left)
		}
		done := c.err
		if done == api.OK && c.left > 0 {
			done = api.ErrForm
		}
		if got := r.Done(); got != done {
			t.Fatalf("%x, call %d, %s: Done %d, want %d", b, i, c.name, int(got), int(done))
		}
	}
}

func TestExample(t *testing.T) { // the chapter's example 1
	b := Join(Num(5), Text("ab"))
	if string(b) != "\x05\x02ab" {
		t.Fatalf("Join(Num(5), Text(`ab`)) = %x", b)
	}
	play(t, string(b), num(9, 5, api.OK, 3), text(9, "ab", api.OK, 0))
	play(t, "\x02ab", text(1, "", api.ErrLong, 3))
}

func TestNum(t *testing.T) { // P2.1
	for _, c := range []struct {
		n    int
		want string
	}{
		{0, "\x00"}, {5, "\x05"}, {63, "\x3f"}, {64, "\x40\x40"}, {15293, "\x7b\xbd"}, {16383, "\x7f\xff"},
		{16384, "\x80\x00\x40\x00"}, {1<<30 - 1, "\xbf\xff\xff\xff"}, {1 << 30, "\xc0\x00\x00\x00\x40\x00\x00\x00"},
		{api.MaxVar, "\xff\xff\xff\xff\xff\xff\xff\xff"},
	} {
		if got := Num(c.n); string(got) != c.want {
			t.Errorf("Num(%d) = %x, want %x", c.n, got, c.want)
		}
	}
	for _, n := range []int{-1, -64, math.MinInt, api.MaxVar + 1, math.MaxInt} {
		if got := Num(n); len(got) != 0 {
			t.Errorf("Num(%d) = %x, want nothing", n, got)
		}
	}
}

func TestText(t *testing.T) { // P2.1
	for _, c := range []struct{ s, ahead string }{
		{"", "\x00"}, {"a", "\x01"}, {"ab", "\x02"}, {"\x00", "\x01"}, {"\xff\xfe", "\x02"}, {"\u00e9", "\x02"},
		{strings.Repeat("x", 63), "\x3f"}, {strings.Repeat("x", 64), "\x40\x40"},
		{strings.Repeat("y", 16383), "\x7f\xff"}, {strings.Repeat("y", 16384), "\x80\x00\x40\x00"},
		{strings.Repeat("z", api.MaxBlob), "\x80\x02\x00\x00"},
	} {
		if got := Text(c.s); string(got) != c.ahead+c.s {
			t.Errorf("Text of %d bytes begins with %x and has %d bytes", len(c.s), got[:min(8, len(got))], len(got))
		}
	}
}

func TestJoin(t *testing.T) { // P2.1
	for _, c := range []struct {
		parts [][]byte
		want  string
	}{
		{nil, ""}, {[][]byte{}, ""}, {[][]byte{nil}, ""}, {[][]byte{nil, {}, nil}, ""},
		{[][]byte{[]byte("a")}, "a"}, {[][]byte{[]byte("a"), []byte("bc")}, "abc"}, {[][]byte{[]byte("bc"), []byte("a")}, "bca"},
		{[][]byte{nil, []byte("a"), {}, []byte("\x00\xff"), nil}, "a\x00\xff"}, {[][]byte{[]byte("a"), []byte("a"), []byte("a")}, "aaa"},
	} {
		if got := Join(c.parts...); string(got) != c.want {
			t.Errorf("Join(%x) = %x, want %x", c.parts, got, c.want)
		}
	}
	if got := Join(); len(got) != 0 {
		t.Errorf("Join of no part = %x", got)
	}
}

func TestTakeNum(t *testing.T) { // P2.2
	play(t, "\x05\x06", num(5, 5, api.OK, 1), num(math.MaxInt, 6, api.OK, 0))
	play(t, "\x00", num(0, 0, api.OK, 0))
	play(t, "\x00", num(-1, 0, api.ErrLong, 1))
	play(t, "\x00", num(math.MinInt, 0, api.ErrLong, 1))
	play(t, "\x05", num(4, 0, api.ErrLong, 1))
	play(t, "\x7b\xbd\x01", num(15293, 15293, api.OK, 1))
	play(t, "\x7b\xbd\x01", num(15292, 0, api.ErrLong, 3))
	play(t, "\xbf\xff\xff\xff\x02", num(1<<30, 1<<30-1, api.OK, 1), one(2, api.OK, 0))
	play(t, "\xff\xff\xff\xff\xff\xff\xff\xff", num(api.MaxVar, api.MaxVar, api.OK, 0))
	play(t, "\xff\xff\xff\xff\xff\xff\xff\xff", num(api.MaxVar-1, 0, api.ErrLong, 8))
	play(t, "", num(9, 0, api.ErrCut, 0))
	play(t, "\x7b", num(9, 0, api.ErrCut, 1))
	play(t, "\xff\xff\xff\xff\xff\xff\xff", num(9, 0, api.ErrCut, 7))
	play(t, "\x40\x05z", num(9, 0, api.ErrForm, 3))
	play(t, "\x40\x05z", num(4, 0, api.ErrForm, 3))
	play(t, "\x80\x00\x3f\xff", num(-1, 0, api.ErrForm, 4))
}

func TestTakeText(t *testing.T) { // P2.2
	play(t, "\x02abc", text(2, "ab", api.OK, 1), one('c', api.OK, 0))
	play(t, "\x00", text(0, "", api.OK, 0))
	play(t, "\x00\x01", text(9, "", api.OK, 1), num(1, 1, api.OK, 0))
	play(t, "\x03ab", text(9, "", api.ErrCut, 3))
	play(t, "\x03", text(3, "", api.ErrCut, 1))
	play(t, "\x03ab", text(2, "", api.ErrLong, 3))
	play(t, "\x00", text(-1, "", api.ErrLong, 1))
	play(t, "\x02ab", text(2, "ab", api.OK, 0), text(2, "", api.ErrCut, 0))
	play(t, "", text(9, "", api.ErrCut, 0))
	play(t, "\x40", text(9, "", api.ErrCut, 1))
	play(t, "\x40\x02ab", text(9, "", api.ErrForm, 4))
	play(t, "\xff\xff\xff\xff\xff\xff\xff\xffab", text(math.MaxInt, "", api.ErrCut, 10))
	play(t, "\xff\xff\xff\xff\xff\xff\xff\xffab", text(9, "", api.ErrLong, 10))
	long := strings.Repeat("q", 64)
	play(t, "\x40\x40"+long, text(64, long, api.OK, 0))
	play(t, "\x40\x40"+long[1:], text(64, "", api.ErrCut, 65))
	play(t, "\x40\x40"+long+"r", text(64, long, api.OK, 1), raw(1, "r", api.OK, 0))
}

func TestTakeRaw(t *testing.T) { // P2.2
	play(t, "abc", raw(2, "ab", api.OK, 1), raw(0, "", api.OK, 1), raw(1, "c", api.OK, 0), raw(0, "", api.OK, 0))
	play(t, "abc", raw(3, "abc", api.OK, 0))
	play(t, "abc", raw(4, "", api.ErrCut, 3))
	play(t, "abc", raw(math.MaxInt, "", api.ErrCut, 3))
	play(t, "abc", raw(-1, "", api.ErrArg, 3))
	play(t, "abc", raw(math.MinInt, "", api.ErrArg, 3))
	play(t, "", raw(0, "", api.OK, 0), raw(1, "", api.ErrCut, 0))
	play(t, "", raw(-1, "", api.ErrArg, 0))
	play(t, "\x00\xff", raw(2, "\x00\xff", api.OK, 0))
}

func TestTakeByte(t *testing.T) { // P2.2
	play(t, "\x00\xffa", one(0, api.OK, 2), one(255, api.OK, 1), one('a', api.OK, 0), one(0, api.ErrCut, 0))
	play(t, "", one(0, api.ErrCut, 0))
}

func TestFirstErrorStays(t *testing.T) { // P2.2: what would go well, or wrong in another way, changes nothing any more
	for _, first := range []struct {
		b    string
		fail call
	}{
		{"\x03ab", text(9, "", api.ErrCut, 3)},
		{"\x03ab", text(1, "", api.ErrLong, 3)},
		{"\x03ab", num(2, 0, api.ErrLong, 3)},
		{"\x03ab", raw(-1, "", api.ErrArg, 3)},
		{"\x03ab", raw(4, "", api.ErrCut, 3)},
		{"\x40\x03a", num(9, 0, api.ErrForm, 3)},
		{"\x40\x03a", text(9, "", api.ErrForm, 3)},
	} {
		err := first.fail.err
		play(t, first.b, first.fail,
			num(99, 0, err, 3), num(-1, 0, err, 3), text(99, "", err, 3), text(0, "", err, 3),
			raw(1, "", err, 3), raw(0, "", err, 3), raw(-1, "", err, 3), raw(9, "", err, 3), one(0, err, 3))
	}
	play(t, "", one(0, api.ErrCut, 0), raw(-1, "", api.ErrCut, 0), num(9, 0, api.ErrCut, 0), raw(0, "", api.ErrCut, 0))
}

func TestDone(t *testing.T) { // P2.3
	r := New([]byte("\x05ab"))
	for _, c := range []struct {
		take int
		left int
		done api.Errno
	}{{0, 3, api.ErrForm}, {1, 2, api.ErrForm}, {1, 1, api.ErrForm}, {1, 0, api.OK}} {
		r.Raw(c.take)
		if r.Left() != c.left || r.Done() != c.done || r.Done() != c.done || r.Err() != api.OK {
			t.Errorf("Left %d, Done %d, Err %d, want %d, %d, 0", r.Left(), int(r.Done()), int(r.Err()), c.left, int(c.done))
		}
	}
	for _, b := range [][]byte{nil, {}} {
		if r := New(b); r == nil || r.Left() != 0 || r.Err() != api.OK || r.Done() != api.OK {
			t.Errorf("a reader of nothing: Left %d, Err %d, Done %d", r.Left(), int(r.Err()), int(r.Done()))
		}
	}
}

func TestNil(t *testing.T) { // P2.3
	var r *Reader
	for _, c := range []call{num(9, 0, 0, 0), text(9, "", 0, 0), raw(1, "", 0, 0), raw(-1, "", 0, 0), one(0, 0, 0)} {
		if got := c.do(r); got != c.want {
			t.Errorf("%s of nil = %#v", c.name, got)
		}
	}
	if r.Left() != 0 || r.Err() != api.ErrNil || r.Done() != api.ErrNil {
		t.Errorf("nil: Left %d, Err %d, Done %d", r.Left(), int(r.Err()), int(r.Done()))
	}
}

func TestTakesItsOwn(t *testing.T) { // P2.3: what becomes of the bytes that were given does not touch the reader
	b := []byte("\x02abcd")
	r := New(b)
	copy(b, "\x01zzzz")
	if r.Text(9) != "ab" || r.Raw(2) != "cd" || r.Done() != api.OK {
		t.Errorf("the reader saw a change: Err %d, Left %d", int(r.Err()), r.Left())
	}
	if string(b) != "\x01zzzz" {
		t.Errorf("the reader changed %x", b)
	}
	room := []byte("\x02ab")
	if x := New(room[:2]); x.Text(9) != "" || x.Err() != api.ErrCut {
		t.Error("a byte of the spare room was read")
	}
}

func TestNothingInCommon(t *testing.T) { // two readers of the same bytes
	b := []byte("\x02ab")
	one, two := New(b), New(b)
	one.Raw(1)
	one.Raw(-1)
	if two.Left() != 3 || two.Err() != api.OK || two.Text(2) != "ab" || two.Done() != api.OK {
		t.Errorf("Left %d, Err %d", two.Left(), int(two.Err()))
	}
}

// spoil changes all of a list, with its spare room.
func spoil(b []byte) {
	b = b[:cap(b)]
	for i := range b {
		b[i] ^= 0xff
	}
}

func TestNewMemory(t *testing.T) {
	part := append(make([]byte, 0, 64), "abc"...)
	for _, parts := range [][][]byte{{part}, {part, nil}, {nil, part}, {part, part}} {
		got := Join(parts...)
		spoil(got)
		if string(part) != "abc" || !bytes.Equal(part[:cap(part)][3:], make([]byte, 61)) {
			t.Fatalf("Join shares memory with its part: %x", part[:cap(part)])
		}
	}
	for _, lay := range []func() []byte{func() []byte { return Num(5) }, func() []byte { return Text("ab") }, func() []byte { return Text("") }} {
		first, second := lay(), lay()
		want := bytes.Clone(second)
		spoil(first)
		if third := lay(); !bytes.Equal(second, want) || !bytes.Equal(third, want) {
			t.Errorf("two answers share memory: %x, %x", second, third)
		}
	}
}

func TestTakenAsLaid(t *testing.T) { // P2.4
	numbers := []int{0, 1, 5, 63, 64, 16383, 16384, 1<<30 - 1, 1 << 30, api.MaxVar}
	texts := []string{"", "a", "\x00", "\xff\xff", "\x40\x05", strings.Repeat("w", 63), strings.Repeat("w", 64), strings.Repeat("v", 16384)}
	for _, n := range numbers {
		for _, s := range texts {
			for _, m := range numbers {
				b := Join(Num(n), Text(s), []byte("raw"), Num(m), Text(s), []byte{7})
				r := New(b)
				if r.Num(n) != n || r.Text(len(s)) != s || r.Raw(3) != "raw" || r.Num(api.MaxVar) != m || r.Text(math.MaxInt) != s || r.Byte() != 7 || r.Left() != 0 || r.Done() != api.OK {
					t.Fatalf("%d, %d bytes, %d: Err %d, Left %d", n, len(s), m, int(r.Err()), r.Left())
				}
			}
		}
	}
}

func FuzzRelaid(f *testing.F) { // P2.4, the other way round: what was taken off, laid again, is what was there
	f.Add([]byte("\x00\x05\x01\x02ab\x02\x03c"), 9)
	f.Add([]byte("\x00\x40\x05"), 9)
	f.Add([]byte("\x01\x7f\xffabc"), 20000)
	f.Fuzz(func(t *testing.T, b []byte, most int) {
		r := New(b)
		var laid []byte
		for r.Left() > 0 && r.Err() == api.OK {
			kind := r.Byte()
			left := r.Left()
			var part []byte
			switch kind % 3 {
			case 0:
				part = Num(r.Num(most))
			case 1:
				part = Text(r.Text(most))
			case 2:
				part = []byte(r.Raw(int(kind) / 3))
			}
			if r.Err() != api.OK {
				part = nil
			}
			if left-r.Left() != len(part) {
				t.Fatalf("%x: %d bytes were taken off for %x", b, left-r.Left(), part)
			}
			laid = Join(laid, []byte{kind}, part)
		}
		if !bytes.Equal(laid, b[:len(b)-r.Left()]) {
			t.Fatalf("%x was laid again as %x, Left %d", b, laid, r.Left())
		}
		if want := r.Err(); want == api.OK && r.Done() != api.OK || want != api.OK && r.Done() != want {
			t.Fatalf("%x: Err %d, Done %d", b, int(want), int(r.Done()))
		}
	})
}
