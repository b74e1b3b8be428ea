package delta

import (
	"bytes"
	"fmt"
	"math"
	"math/rand"
	"slices"
	"strings"
	"testing"

	"sumpter/api"
	"sumpter/block"
	"sumpter/match"
)

// data is an operation of bytes.
func data(s string) api.Op { return api.Op{Data: []byte(s)} }

// take is a copy.
func take(at, n int) api.Op { return api.Op{Copy: true, At: at, N: n} }

// many is an operation, so many times.
func many(o api.Op, n int) []api.Op { return slices.Repeat([]api.Op{o}, n) }

// show tells operations as a text, by which they are held against each other here.
func show(l []api.Op) string {
	var s strings.Builder
	for _, o := range l {
		fmt.Fprintf(&s, "(%v %d %d %q)", o.Copy, o.At, o.N, o.Data)
	}
	return s.String()
}

// text makes n bytes by chance.
func text(r *rand.Rand, n int) string {
	b := make([]byte, n)
	for i := range b {
		b[i] = byte('a' + r.Intn(26))
	}
	return string(b)
}

// someOps makes operations by chance that may be, of an old file of so many bytes.
func someOps(r *rand.Rand, old int) []api.Op {
	var l []api.Op
	for range r.Intn(8) {
		if old > 0 && r.Intn(2) == 0 {
			at := r.Intn(old)
			l = append(l, take(at, 1+r.Intn(old-at)))
		} else {
			l = append(l, data(text(r, 1+r.Intn(80))))
		}
	}
	return l
}

// plainMade is what operations that may be make, word by word.
func plainMade(old string, l []api.Op) string {
	var s strings.Builder
	for _, o := range l {
		if o.Copy {
			s.WriteString(old[o.At : o.At+o.N])
		}
		s.Write(o.Data)
	}
	return s.String()
}

// plainNumber reads a number of the wire by its words: is tells whether it is there, least whether it stands in its least width.
func plainNumber(b string) (n, used int, is, least bool) {
	if b == "" {
		return 0, 0, false, false
	}
	k := int(b[0] >> 6)
	used = 1 << k
	if len(b) < used {
		return 0, 0, false, false
	}
	for i, c := range []byte(b[:used]) {
		if i == 0 {
			c &= 0x3f
		}
		n = n*256 + int(c)
	}
	return n, used, true, n >= []int{0, 1 << 6, 1 << 14, 1 << 30}[k]
}

// plainNumbers reads count numbers. err is that of the first one that does not stand in its least width.
func plainNumbers(b string, count int) (l []int, used int, err api.Errno) {
	for range count {
		n, k, is, least := plainNumber(b[used:])
		if !is {
			return l, used, api.OK
		}
		if !least {
			return l, used, api.ErrForm
		}
		l = append(l, n)
		used += k
	}
	return l, used, api.OK
}

// plainFeed is P13.3 word by word, of all bytes that came so far: all that was taken, how many bytes it makes, and how many are left over.
func plainFeed(b string, old int) (l []api.Op, made, rest int, err api.Errno) {
	for b != "" {
		count := 1
		if b[0] == 1 {
			count = 2
		}
		if b[0] > 1 {
			return nil, 0, 0, api.ErrForm
		}
		nums, used, err := plainNumbers(b[1:], count)
		if err != api.OK {
			return nil, 0, 0, err
		}
		if len(nums) < count {
			return l, made, len(b), api.OK
		}
		var o api.Op
		rest := b[1+used:]
		if b[0] == 1 {
			o = take(nums[0], nums[1])
			if o.N < 1 || o.At > old || o.N > old-o.At {
				return nil, 0, 0, api.ErrForm
			}
			made += o.N
		} else {
			if nums[0] == 0 {
				return nil, 0, 0, api.ErrForm
			}
			if nums[0] > 65536 {
				return nil, 0, 0, api.ErrLong
			}
			if nums[0] > len(rest) {
				return l, made, len(b), api.OK
			}
			o = data(rest[:nums[0]])
			rest = rest[nums[0]:]
			made += nums[0]
		}
		if made > 65536 {
			return nil, 0, 0, api.ErrLong
		}
		l = append(l, o)
		b = rest
	}
	return l, made, 0, api.OK
}

// checkFeed feeds pieces, and holds each answer, and what is told behind it, against the words.
func checkFeed(t *testing.T, old int, pieces []string) {
	t.Helper()
	d := New(old)
	var all string
	var got []api.Op
	var failed api.Errno
	for _, p := range pieces {
		made, rest := d.Made(), d.Rest()
		l, err := d.Feed([]byte(p))
		all += p
		want, wantMade, wantRest, wantErr := plainFeed(all, old)
		if failed != api.OK { // the first error stays, and what was told ahead of it
			wantErr = failed
		}
		if wantErr != api.OK {
			failed, want, wantMade, wantRest = wantErr, got, made, rest
		}
		got = append(got, l...)
		if err != wantErr || err != api.OK && l != nil || show(got) != show(want) || d.Made() != wantMade || d.Rest() != wantRest {
			t.Fatalf("%.80x, the last %d bytes of it, old %d: %.200s, %v, made %d, rest %d; want %.200s, %v, %d, %d",
				all, len(p), old, show(got), err, d.Made(), d.Rest(), show(want), wantErr, wantMade, wantRest)
		}
	}
}

// cuts cuts a text into pieces by chance, empty ones among them.
func cuts(r *rand.Rand, s string) []string {
	var l []string
	most := 1 + r.Intn(20)
	for s != "" {
		n := min(r.Intn(most+1), len(s))
		l = append(l, s[:n])
		s = s[n:]
	}
	return append(l, "")
}

// checkAllCuts feeds bytes whole, one by one, in two pieces at each place, and in pieces by chance.
func checkAllCuts(t *testing.T, old int, s string) {
	t.Helper()
	checkFeed(t, old, []string{s, "", "\x02"})
	checkFeed(t, old, append(bytesOf(s), "", s))
	for i := range len(s) + 1 {
		checkFeed(t, old, []string{s[:i], s[i:], ""})
	}
	checkFeed(t, old, cuts(rand.New(rand.NewSource(int64(len(s)))), s))
}

// bytesOf splits by bytes, not by runes.
func bytesOf(s string) []string {
	var l []string
	for i := range len(s) {
		l = append(l, s[i:i+1])
	}
	return l
}

// The chapter's example.
func TestExample(t *testing.T) {
	l := []api.Op{take(0, 6), data("xy")}
	b := Put(l)
	if string(b) != "\x01\x00\x06\x00\x02xy" {
		t.Errorf("%x", b)
	}
	if made, err := Apply([]byte("abcdef"), l); string(made) != "abcdefxy" || err != api.OK {
		t.Error(string(made), err)
	}
	if got := From(l, 4); show(got) != show([]api.Op{take(4, 2), data("xy")}) {
		t.Error(show(got))
	}
	d := New(6)
	if got, err := d.Feed(b); show(got) != show(l) || err != api.OK || d.Made() != 8 || d.Rest() != 0 {
		t.Error(show(got), err, d.Made(), d.Rest())
	}
}

// P13.1: which operations may be.
func TestMayBe(t *testing.T) {
	for _, c := range []struct {
		o    api.Op
		old  int
		want api.Errno
	}{
		{take(0, 6), 6, api.OK},
		{take(0, 1), 6, api.OK},
		{take(5, 1), 6, api.OK},
		{take(2, 4), 6, api.OK},
		{take(0, 1), 1, api.OK},
		{take(math.MaxInt-1, 1), math.MaxInt, api.OK},
		{data("a"), 6, api.OK},
		{data("a"), 0, api.OK},
		{data("a"), -1, api.OK},
		{data("a"), math.MinInt, api.OK},
		{api.Op{Copy: true, N: 6, Data: []byte{}}, 6, api.OK}, // empty Data and nil are the same
		{take(0, 7), 6, api.ErrForm},
		{take(6, 1), 6, api.ErrForm},
		{take(5, 2), 6, api.ErrForm},
		{take(3, 4), 6, api.ErrForm},
		{take(7, 1), 6, api.ErrForm},
		{take(0, 0), 6, api.ErrForm},
		{take(6, 0), 6, api.ErrForm},
		{take(0, -1), 6, api.ErrForm},
		{take(3, -1), 6, api.ErrForm},
		{take(-1, 1), 6, api.ErrForm},
		{take(-1, 2), 6, api.ErrForm},
		{take(math.MinInt, 1), 6, api.ErrForm},
		{take(0, 1), 0, api.ErrForm},
		{take(0, 1), -1, api.ErrForm},
		{take(0, math.MinInt), 6, api.ErrForm},
		{take(math.MaxInt, math.MaxInt), 6, api.ErrForm}, // At and N together wrap round
		{take(math.MaxInt, 1), math.MaxInt, api.ErrForm},
		{take(1, math.MaxInt), math.MaxInt, api.ErrForm},
		{take(math.MaxInt, 1), math.MinInt, api.ErrForm}, // old without At wraps round
		{take(0, 1), math.MinInt, api.ErrForm},
		{api.Op{Copy: true, N: 1, Data: []byte("a")}, 6, api.ErrForm},
		{api.Op{Copy: true}, 6, api.ErrForm},
		{api.Op{}, 6, api.ErrForm},
		{api.Op{Data: []byte{}}, 6, api.ErrForm},
		{api.Op{N: 1}, 6, api.ErrForm},
		{api.Op{At: 1, Data: []byte("a")}, 6, api.ErrForm},
		{api.Op{N: 1, Data: []byte("a")}, 6, api.ErrForm},
		{api.Op{At: -1, Data: []byte("a")}, 6, api.ErrForm},
		{api.Op{N: -1, Data: []byte("a")}, 6, api.ErrForm},
	} {
		for _, l := range [][]api.Op{{c.o}, {data("x"), c.o}, {c.o, data("x")}} {
			if got := Check(l, c.old); got != c.want {
				t.Errorf("%s of %d: %v, want %v", show(l), c.old, got, c.want)
			}
		}
	}
}

// P13.1: the bounds, and which error is told first.
func TestCheckBounds(t *testing.T) {
	bad := api.Op{}
	big := strings.Repeat("a", 65536)
	for _, c := range []struct {
		what string
		l    []api.Op
		old  int
		want api.Errno
	}{
		{"none", nil, 0, api.OK},
		{"an empty list", []api.Op{}, -5, api.OK},
		{"as many as may be", many(data("a"), 4096), 0, api.OK},
		{"as many copies as may be", many(take(0, 16), 4096), 16, api.OK},
		{"one more", many(data("a"), 4097), 0, api.ErrLong},
		{"one more, and none may be", many(bad, 4097), 0, api.ErrLong},
		{"far more", many(bad, 100000), 0, api.ErrLong},
		{"the last one may not be", append(many(data("a"), 4095), bad), 0, api.ErrForm},
		{"the first one may not be", append([]api.Op{bad}, many(data("a"), 4095)...), 0, api.ErrForm},
		{"as many bytes as may be", []api.Op{data(big)}, 0, api.OK},
		{"one byte more", []api.Op{data(big + "b")}, 0, api.ErrLong},
		{"one byte more in a second one", []api.Op{data(big), data("b")}, 0, api.ErrLong},
		{"one byte more in a copy", []api.Op{data(big), take(0, 1)}, 1, api.ErrLong},
		{"a copy of as many", []api.Op{take(0, 65536)}, 65536, api.OK},
		{"a copy of one more", []api.Op{take(0, 65537)}, 65537, api.ErrLong},
		{"copies and bytes, as many", []api.Op{take(0, 65000), data(big[:536])}, 65000, api.OK},
		{"copies and bytes, one more", []api.Op{take(0, 65000), data(big[:537])}, 65000, api.ErrLong},
		{"too many bytes, then one that may not be", []api.Op{data(big + "b"), bad}, 0, api.ErrForm},
		{"one that may not be, then too many bytes", []api.Op{bad, data(big + "b")}, 0, api.ErrForm},
		{"too long a copy, that ends behind the old file", []api.Op{take(0, 65537)}, 65536, api.ErrForm},
		{"copies whose sum wraps round", many(take(0, math.MaxInt), 3), math.MaxInt, api.ErrLong},
		{"copies whose sum is 0 again", append(many(take(0, 1<<62), 4), data("a")), math.MaxInt, api.ErrLong},
	} {
		if got := Check(c.l, c.old); got != c.want {
			t.Errorf("%s: %v, want %v", c.what, got, c.want)
		}
		if len(c.l) > 0 && c.old >= 0 && c.old < 1<<20 {
			if made, err := Apply(make([]byte, c.old), c.l); err != c.want || err != api.OK && made != nil {
				t.Errorf("%s: Apply %d bytes, %v, want %v", c.what, len(made), err, c.want)
			}
		}
	}
}

// P13.1: what operations make.
func TestApply(t *testing.T) {
	for _, c := range []struct {
		old  string
		l    []api.Op
		want string
		err  api.Errno
	}{
		{"", nil, "", api.OK},
		{"abcdef", nil, "", api.OK},
		{"abcdef", []api.Op{take(0, 6)}, "abcdef", api.OK},
		{"abcdef", []api.Op{take(3, 3), take(0, 3)}, "defabc", api.OK},
		{"abcdef", []api.Op{take(1, 2), data("xy"), take(1, 4)}, "bcxybcde", api.OK},
		{"abcdef", []api.Op{take(5, 1), take(5, 1), take(0, 1)}, "ffa", api.OK},
		{"", []api.Op{data("a"), data("bc")}, "abc", api.OK},
		{"abcdef", []api.Op{take(0, 6), data("\x00\xff")}, "abcdef\x00\xff", api.OK},
		{"abcdef", []api.Op{take(0, 6), take(5, 2)}, "", api.ErrForm},
		{"abcdef", []api.Op{data("x"), {}}, "", api.ErrForm},
		{"", []api.Op{take(0, 1)}, "", api.ErrForm},
		{"abcdef", many(take(0, 1), 4097), "", api.ErrLong},
	} {
		got, err := Apply([]byte(c.old), c.l)
		if string(got) != c.want || err != c.err {
			t.Errorf("%q %.100s: %q, %v, want %q, %v", c.old, show(c.l), got, err, c.want, c.err)
		}
	}
	r := rand.New(rand.NewSource(1))
	for range 2000 {
		old := text(r, r.Intn(60))
		l := someOps(r, len(old))
		if got, err := Apply([]byte(old), l); string(got) != plainMade(old, l) || err != api.OK {
			t.Fatalf("%q %s: %q, %v", old, show(l), got, err)
		}
	}
}

// P13.2: the bytes of operations, in numbers of each width.
func TestPut(t *testing.T) {
	for _, c := range []struct {
		l    []api.Op
		want string
	}{
		{nil, ""},
		{[]api.Op{take(0, 1)}, "\x01\x00\x01"},
		{[]api.Op{take(63, 64)}, "\x01\x3f\x40\x40"},
		{[]api.Op{take(16383, 16384)}, "\x01\x7f\xff\x80\x00\x40\x00"},
		{[]api.Op{take(1<<30-1, 1<<30)}, "\x01\xbf\xff\xff\xff\xc0\x00\x00\x00\x40\x00\x00\x00"},
		{[]api.Op{take(1<<62-1, 1)}, "\x01\xff\xff\xff\xff\xff\xff\xff\xff\x01"},
		{[]api.Op{data("a")}, "\x00\x01a"},
		{[]api.Op{data("\x00\x01"), data("\xff")}, "\x00\x02\x00\x01\x00\x01\xff"},
		{[]api.Op{take(2, 3), take(4, 5), data("z"), take(6, 7)}, "\x01\x02\x03\x01\x04\x05\x00\x01z\x01\x06\x07"},
		{[]api.Op{data(strings.Repeat("a", 63))}, "\x00\x3f" + strings.Repeat("a", 63)},
		{[]api.Op{data(strings.Repeat("a", 64))}, "\x00\x40\x40" + strings.Repeat("a", 64)},
		{[]api.Op{data(strings.Repeat("a", 16384))}, "\x00\x80\x00\x40\x00" + strings.Repeat("a", 16384)},
		{[]api.Op{{}}, "\x00\x00"}, // those that may not be have bytes, too, by the same words
		{[]api.Op{{Copy: true}}, "\x01\x00\x00"},
		{[]api.Op{take(-1, 2), take(2, -1), take(1<<62, 3)}, "\x01\x02\x01\x02\x01\x03"},
		{[]api.Op{{Copy: true, N: 1, Data: []byte("a")}, {At: 5, N: 6, Data: []byte("b")}}, "\x01\x00\x01\x00\x01b"},
	} {
		if got := Put(c.l); string(got) != c.want {
			t.Errorf("%.100s: %.40x, want %.40x", show(c.l), got, c.want)
		}
	}
	if got := Put(many(data("ab"), 5000)); string(got) != strings.Repeat("\x00\x02ab", 5000) {
		t.Errorf("more than may be: %d bytes", len(got))
	}
}

// plainFrom is P13.2 word by word, byte by byte: each operation as copies and bytes of one, and those that are left of it as one.
func plainFrom(l []api.Op, n int) []api.Op {
	var out []api.Op
	for _, o := range l {
		var left api.Op
		for i := range max(o.N, len(o.Data)) {
			switch {
			case n > 0:
				n--
			case !o.Copy:
				left.Data = append(left.Data, o.Data[i])
			case left.N == 0:
				left = take(o.At+i, 1)
			default:
				left.N++
			}
		}
		if left.N > 0 || len(left.Data) > 0 {
			out = append(out, left)
		}
	}
	return out
}

// P13.2: a few, by hand.
func TestFrom(t *testing.T) {
	l := []api.Op{take(3, 6), data("xyz"), take(0, 1)}
	for _, c := range []struct {
		n    int
		want []api.Op
	}{
		{math.MinInt, l}, {-1, l}, {0, l},
		{1, []api.Op{take(4, 5), data("xyz"), take(0, 1)}},
		{5, []api.Op{take(8, 1), data("xyz"), take(0, 1)}},
		{6, []api.Op{data("xyz"), take(0, 1)}},
		{7, []api.Op{data("yz"), take(0, 1)}},
		{8, []api.Op{data("z"), take(0, 1)}},
		{9, []api.Op{take(0, 1)}},
		{10, nil}, {11, nil}, {math.MaxInt, nil},
	} {
		if got := From(l, c.n); show(got) != show(c.want) {
			t.Errorf("%d: %s, want %s", c.n, show(got), show(c.want))
		}
	}
	for _, n := range []int{math.MinInt, -1, 0, 1, math.MaxInt} {
		if got := From(nil, n); got != nil {
			t.Error(n, show(got))
		}
	}
}

// P13.2: operations that may not be. What makes nothing goes with what is ahead of it; an N below 0 makes nothing; no call panics.
func TestFromOfOthers(t *testing.T) {
	for _, c := range []struct {
		l    []api.Op
		n    int
		want []api.Op
	}{
		{[]api.Op{{}, data("ab"), {}}, 0, []api.Op{{}, data("ab"), {}}},
		{[]api.Op{{}, data("ab"), {}}, 1, []api.Op{data("b"), {}}},
		{[]api.Op{{}, data("ab"), {}}, 2, nil}, // they make no more than 2
		{[]api.Op{data("ab"), {}, data("c")}, 2, []api.Op{data("c")}},
		{[]api.Op{take(0, -5), data("ab")}, 1, []api.Op{data("b")}},
		{[]api.Op{take(0, math.MinInt), take(-7, 5)}, 3, []api.Op{take(-4, 2)}},
		{[]api.Op{take(0, math.MaxInt), take(0, math.MaxInt)}, math.MaxInt, []api.Op{take(0, math.MaxInt)}},
		{[]api.Op{take(0, math.MaxInt), data("ab")}, 10, []api.Op{take(10, math.MaxInt-10), data("ab")}},
		{[]api.Op{{Copy: true, N: 3, Data: []byte("q")}}, 2, []api.Op{{Copy: true, At: 2, N: 1, Data: []byte("q")}}},
		{[]api.Op{{At: 4, N: 5, Data: []byte("pq")}}, 1, []api.Op{{At: 4, N: 5, Data: []byte("q")}}},
	} {
		if got := From(c.l, c.n); show(got) != show(c.want) {
			t.Errorf("%s from %d: %s, want %s", show(c.l), c.n, show(got), show(c.want))
		}
	}
	From([]api.Op{take(math.MaxInt, 5)}, 2) // no panic
}

// P13.2, P13.4: what is left of operations makes what is left, at each place.
func TestFromEach(t *testing.T) {
	r := rand.New(rand.NewSource(2))
	for range 300 {
		old := text(r, r.Intn(60))
		l := someOps(r, len(old))
		all := plainMade(old, l)
		for n := -2; n <= len(all)+2; n++ {
			got := From(l, n)
			if show(got) != show(plainFrom(l, n)) {
				t.Fatalf("%s from %d: %s, want %s", show(l), n, show(got), show(plainFrom(l, n)))
			}
			made, err := Apply([]byte(old), got)
			if err != api.OK || string(made) != all[min(max(n, 0), len(all)):] {
				t.Fatalf("%s from %d makes %q, %v", show(l), n, made, err)
			}
			if at := r.Intn(20); n >= 0 && show(From(got, at)) != show(From(l, n+at)) {
				t.Fatalf("%s from %d, from %d", show(l), n, at)
			}
		}
	}
}

// P13.3: what is wrong, and the byte with which it is told: fewer are waited for.
func TestFeedErrors(t *testing.T) {
	for _, c := range []struct {
		old  int
		s    string
		at   int // how many bytes must be there
		want api.Errno
	}{
		{6, "\x02", 1, api.ErrForm},
		{6, "\xff", 1, api.ErrForm},
		{6, "\x40\x00\x01\x01", 1, api.ErrForm}, // what begins one is a byte, not a number
		{6, "\x00\x00", 2, api.ErrForm},
		{6, "\x00\x40\x00", 3, api.ErrForm},
		{6, "\x00\x40\x05abcde", 3, api.ErrForm},
		{6, "\x00\x80\x00\x00\x3f", 5, api.ErrForm},
		{6, "\x00\x80\x00\x3f\xff", 5, api.ErrForm},
		{6, "\x00\xc0\x00\x00\x00\x3f\xff\xff\xff", 9, api.ErrForm}, // long, too, but no number in its least width
		{6, "\x01\x40\x05", 3, api.ErrForm},                         // behind it nothing is needed
		{6, "\x01\x00\x40\x05", 4, api.ErrForm},
		{6, "\x01\x80\x00\x3f\xff\x01", 5, api.ErrForm},
		{6, "\x01\x00\x00", 3, api.ErrForm},
		{6, "\x01\x06\x00", 3, api.ErrForm},
		{6, "\x01\x00\x07", 3, api.ErrForm},
		{6, "\x01\x05\x02", 3, api.ErrForm},
		{6, "\x01\x06\x01", 3, api.ErrForm},
		{6, "\x01\x07\x01", 3, api.ErrForm}, // the At alone tells nothing: its N is waited for
		{6, "\x01\xff\xff\xff\xff\xff\xff\xff\xff\xff\xff\xff\xff\xff\xff\xff\xff", 17, api.ErrForm},
		{6, "\x01\x00\xff\xff\xff\xff\xff\xff\xff\xff", 10, api.ErrForm},
		{0, "\x01\x00\x01", 3, api.ErrForm},
		{-1, "\x01\x00\x01", 3, api.ErrForm},
		{math.MinInt, "\x01\xff\xff\xff\xff\xff\xff\xff\xff\x01", 10, api.ErrForm},
		{65536, "\x01\x00\x80\x01\x00\x01", 6, api.ErrForm}, // behind the old file, and long: the first that the chapter names
		{65537, "\x01\x00\x80\x01\x00\x01", 6, api.ErrLong},
		{math.MaxInt, "\x01\x00\xff\xff\xff\xff\xff\xff\xff\xff", 10, api.ErrLong},
		{6, "\x00\x80\x01\x00\x01", 5, api.ErrLong}, // as soon as the number is there
		{6, "\x00\xff\xff\xff\xff\xff\xff\xff\xff", 9, api.ErrLong},
		{6, "\x00\xc0\x00\x00\x00\x40\x00\x00\x00", 9, api.ErrLong},
		{6, "\x01\x00\x06\x02", 4, api.ErrForm},
		{6, "\x00\x02ab\x00\x00", 6, api.ErrForm},
		{6, "\x00\x02ab\x01\x05\x02\x00\x80\x01\x00\x01", 7, api.ErrForm}, // the first, from the left
		{6, "\x00\x02ab\x00\x80\x01\x00\x01\x02", 9, api.ErrLong},
		{65536, "\x01\x00\x80\x01\x00\x00\x00\x01a\x02", 9, api.ErrLong}, // whole, and with what was taken too much
		{65536, "\x01\x00\x80\x01\x00\x00\x01\x00\x01", 9, api.ErrLong},
		{65536, "\x01\x00\x80\x01\x00\x00\x00\x00", 8, api.ErrForm},
		{65536, "\x01\x00\x80\x01\x00\x00\x00\x05abcd\x02", 13, api.ErrLong},
	} {
		d := New(c.old)
		if _, err := d.Feed([]byte(c.s[:c.at-1])); err != api.OK {
			t.Errorf("%x of %d: %v ahead of byte %d", c.s, c.old, err, c.at)
		}
		if l, err := d.Feed([]byte(c.s[c.at-1 : c.at])); err != c.want || l != nil {
			t.Errorf("%x of %d: %s, %v with byte %d, want %v", c.s, c.old, show(l), err, c.at, c.want)
		}
		checkFeed(t, c.old, append(bytesOf(c.s), "", "\x00\x01a"))
		checkAllCuts(t, c.old, c.s)
	}
}

// P13.3: what is cut off is waited for.
func TestFeedWaits(t *testing.T) {
	for _, c := range []struct {
		old        int
		s          string
		want       []api.Op
		made, rest int
	}{
		{6, "", nil, 0, 0},
		{6, "\x00", nil, 0, 1},
		{6, "\x01", nil, 0, 1},
		{6, "\x01\x05", nil, 0, 2},
		{6, "\x01\x3f", nil, 0, 2}, // behind the old file: but its N is not there
		{6, "\x01\x40", nil, 0, 2},
		{6, "\x01\x00\x40", nil, 0, 3},
		{6, "\x00\x05ab", nil, 0, 4},
		{6, "\x00\x80\x01\x00\x00", nil, 0, 5}, // as many as a file may have
		{6, "\x00\xff\xff\xff\xff\xff\xff\xff", nil, 0, 8},
		{6, "\x00\x02ab\x00", []api.Op{data("ab")}, 2, 1},
		{6, "\x01\x00\x06\x00\x02x", []api.Op{take(0, 6)}, 6, 3},
		{6, "\x00\x02ab\x01\x03\x03\x00\x01\x02", []api.Op{data("ab"), take(3, 3), data("\x02")}, 6, 0},
		{65536, "\x01\x00\x80\x01\x00\x00", []api.Op{take(0, 65536)}, 65536, 0},
		{65536, "\x01\x00\x80\x01\x00\x00\x00\x05abcd", []api.Op{take(0, 65536)}, 65536, 6}, // too much, but not whole
		{65536, "\x01\x00\x80\x01\x00\x00\x01\x00", []api.Op{take(0, 65536)}, 65536, 2},
		{math.MaxInt, "\x01\xff\xff\xff\xff\xff\xff\xff\xff\x01", []api.Op{take(1<<62-1, 1)}, 1, 0},
		{-1, "\x00\x01a", []api.Op{data("a")}, 1, 0},
	} {
		d := New(c.old)
		l, err := d.Feed([]byte(c.s))
		if err != api.OK || show(l) != show(c.want) || d.Made() != c.made || d.Rest() != c.rest {
			t.Errorf("%x of %d: %s, %v, %d, %d", c.s, c.old, show(l), err, d.Made(), d.Rest())
		}
		if l, err := d.Feed(nil); l != nil || err != api.OK || d.Made() != c.made || d.Rest() != c.rest {
			t.Errorf("%x of %d, and nothing: %s, %v, %d, %d", c.s, c.old, show(l), err, d.Made(), d.Rest())
		}
		checkAllCuts(t, c.old, c.s)
	}
}

// P13.3: with an error nothing of the call is taken, neither ahead of what is wrong nor what was left over; and it stays, whatever comes.
func TestFeedStays(t *testing.T) {
	d := New(6)
	d.Feed([]byte("\x00\x02ab\x00\x03x"))
	for _, b := range []string{"yz\x01\x00\x06\x02", "", "yz", "\x00\x01a"} {
		if l, err := d.Feed([]byte(b)); l != nil || err != api.ErrForm || d.Made() != 2 || d.Rest() != 3 {
			t.Errorf("%q: %s, %v, %d, %d", b, show(l), err, d.Made(), d.Rest())
		}
	}
	d = New(6)
	d.Feed([]byte("\x00\x80\x01\x00\x01"))
	if l, err := d.Feed([]byte("\x02")); l != nil || err != api.ErrLong || d.Rest() != 0 {
		t.Error(show(l), err, "where it was another error first")
	}
}

// P13.3: the bound is on what is made, not on how many operations there are.
func TestFeedMany(t *testing.T) {
	l := many(take(2, 1), 65536)
	b := Put(l)
	d := New(3)
	if got, err := d.Feed(b); err != api.OK || show(got) != show(l) || d.Made() != 65536 {
		t.Error(len(got), err, d.Made())
	}
	if got, err := d.Feed([]byte("\x00\x01")); got != nil || err != api.OK || d.Rest() != 2 {
		t.Error(show(got), err, d.Rest())
	}
	if got, err := d.Feed([]byte("a")); got != nil || err != api.ErrLong || d.Made() != 65536 || d.Rest() != 2 {
		t.Error(show(got), err, d.Made(), d.Rest())
	}
	if got, err := New(3).Feed(append(b, "\x01\x00\x01"...)); got != nil || err != api.ErrLong {
		t.Error(len(got), err)
	}
}

// P13.3, P13.4: operations that are put, by chance spoilt, cut off, or with something behind, in pieces.
func TestFeedByWords(t *testing.T) {
	r := rand.New(rand.NewSource(3))
	for range 5000 {
		old := r.Intn(80)
		b := Put(someOps(r, old))
		for range r.Intn(3) {
			if len(b) > 0 {
				b[r.Intn(len(b))] = byte(r.Intn(256) >> (r.Intn(2) * 6))
			}
		}
		if r.Intn(2) == 0 {
			b = b[:r.Intn(len(b)+1)]
		}
		checkFeed(t, old, cuts(r, string(b)))
		checkFeed(t, old-1, cuts(r, string(b)))
	}
}

// P13.3: all short texts of bytes that mean something.
func TestFeedAllShort(t *testing.T) {
	letters := "\x00\x01\x02\x40\x80"
	level := []string{""}
	for range 6 {
		var next []string
		for _, s := range level {
			for _, c := range bytesOf(letters) {
				next = append(next, s+c)
			}
		}
		for _, s := range next {
			checkFeed(t, 2, []string{s, "\x00"})
			checkFeed(t, 2, bytesOf(s))
		}
		level = next
	}
}

// P13.4: operations that are put are fed as they were, however the bytes are cut, and make what they made.
func TestPutFed(t *testing.T) {
	r := rand.New(rand.NewSource(4))
	for range 2000 {
		old := text(r, r.Intn(200))
		l := someOps(r, len(old))
		d := New(len(old))
		var got []api.Op
		for _, p := range cuts(r, string(Put(l))) {
			x, err := d.Feed([]byte(p))
			if err != api.OK {
				t.Fatal(show(l), err)
			}
			got = append(got, x...)
		}
		made := plainMade(old, l)
		if !match.Same(got, l) || d.Made() != len(made) || d.Rest() != 0 {
			t.Fatalf("%s: %s, %d, %d", show(l), show(got), d.Made(), d.Rest())
		}
		if again, err := Apply([]byte(old), got); string(again) != made || err != api.OK {
			t.Fatal(show(l), err)
		}
	}
}

// P13.4: a new file of an old one, as it is searched for, goes over whole, and from each tenth of it on.
func TestOfMatch(t *testing.T) {
	r := rand.New(rand.NewSource(5))
	old := text(r, 20000)
	want := old[5000:9000] + text(r, 500) + old[:12345] + "!" + old[100:]
	l, _ := block.Sign([]byte(old), 64)
	x, _ := block.New(64, len(old), l)
	ops := match.Search(x, []byte(want))
	if match.Copied(ops) < 30000 {
		t.Fatal("few copies")
	}
	for from := 0; from <= len(want); from += len(want) / 10 {
		d := New(len(old))
		got, err := d.Feed(Put(From(ops, from)))
		made, err2 := Apply([]byte(old), got)
		if err != api.OK || err2 != api.OK || want[:from]+string(made) != want || d.Made() != len(want)-from {
			t.Error(from, err, err2, len(made))
		}
	}
}

// P13.3: a fork is as its decoder was, and each goes on by itself.
func TestFork(t *testing.T) {
	d := New(6)
	d.Feed([]byte("\x00\x02ab\x00\x04x"))
	fork := d.Fork()
	if fork.Made() != 2 || fork.Rest() != 3 {
		t.Error(fork.Made(), fork.Rest())
	}
	if l, err := d.Feed([]byte("yyy\x01\x05\x01")); show(l) != show([]api.Op{data("xyyy"), take(5, 1)}) || err != api.OK {
		t.Error(show(l), err)
	}
	third := fork.Fork()
	if l, err := fork.Feed([]byte("z")); l != nil || err != api.OK || fork.Rest() != 4 {
		t.Error(show(l), err, fork.Rest())
	}
	if l, err := third.Feed([]byte("vvv")); show(l) != show([]api.Op{data("xvvv")}) || err != api.OK {
		t.Error(show(l), err)
	}
	if l, err := fork.Feed([]byte("zz\x00")); show(l) != show([]api.Op{data("xzzz")}) || err != api.OK {
		t.Error(show(l), err)
	}
	if d.Made() != 7 || d.Rest() != 0 || fork.Made() != 6 || fork.Rest() != 1 || third.Made() != 6 || third.Rest() != 0 {
		t.Error(d.Made(), d.Rest(), fork.Made(), fork.Rest(), third.Made(), third.Rest())
	}
	if _, err := third.Feed([]byte("\x01\x05\x02")); err != api.ErrForm { // the old file is the same
		t.Error(err)
	}
	if _, err := fork.Feed([]byte("\x01q")); err != api.OK {
		t.Error("another one's error is this one's", err)
	}
	if _, err := third.Fork().Feed(nil); err != api.ErrForm {
		t.Error("a fork has no error where its decoder had one", err)
	}
}

// P13.3: forks of what has spare room do not write into each other's bytes.
func TestForkByWords(t *testing.T) {
	r := rand.New(rand.NewSource(6))
	for range 500 {
		old := 1 + r.Intn(80)
		s := Put(someOps(r, old))
		cut := r.Intn(len(s) + 1)
		d := New(old)
		for _, p := range cuts(r, string(s[:cut])) {
			d.Feed([]byte(p))
		}
		fork := d.Fork()
		d.Feed(bytes.Repeat([]byte{'!'}, 30))
		d.Fork().Feed(bytes.Repeat([]byte{'?'}, 30))
		got, err := fork.Feed(s[cut:])
		plain := New(old)
		plain.Feed(s[:cut])
		want, _ := plain.Feed(s[cut:])
		if err != api.OK || show(got) != show(want) {
			t.Fatalf("%x at %d: %s, %v, want %s", s, cut, show(got), err, show(want))
		}
	}
}

// P13.3: of nil zero values, and ErrNil.
func TestNil(t *testing.T) {
	var d *Decoder
	if d.Made() != 0 || d.Rest() != 0 || d.Fork() != nil {
		t.Error("not zero")
	}
	for _, b := range []string{"", "\x00\x01a", "\x02"} {
		if l, err := d.Feed([]byte(b)); l != nil || err != api.ErrNil {
			t.Error(show(l), err)
		}
	}
	for _, old := range []int{0, -1, math.MinInt, math.MaxInt} {
		if d := New(old); d == nil || d.Made() != 0 || d.Rest() != 0 {
			t.Error(old)
		}
	}
}

// spoil changes all of a list's memory, with its spare room.
func spoil(b []byte) {
	b = b[:cap(b)]
	for i := range b {
		b[i] ^= 0xff
	}
}

// spoilOps changes all of the memory of operations.
func spoilOps(l []api.Op) {
	for i := range l {
		spoil(l[i].Data)
	}
	l = l[:cap(l)]
	for i := range l {
		l[i] = take(-9, -9)
	}
}

// Rule 3: arguments stay as they are, and are not kept; answers are memory of their own.
func TestOwnMemory(t *testing.T) {
	make4 := func() []api.Op { return []api.Op{data("pq"), take(1, 3), data("xyz"), take(0, 1)} }
	l, old := make4(), []byte("abcd")
	whole := show(l)
	for n := range 9 {
		want := show(plainFrom(make4(), n))
		got := From(l, n)
		spoilOps(got)
		if show(l) != whole || show(From(l, n)) != want {
			t.Fatal("From answers its argument's memory", n)
		}
		got = From(l, n)
		for i := range got {
			spoil(got[i].Data)
			for j, o := range got {
				if j > i && string(o.Data) != string(From(l, n)[j].Data) {
					t.Error("two lists of an answer share memory", n, i, j)
				}
			}
		}
		kept := From(l, n)
		spoilOps(l)
		if show(kept) != want {
			t.Fatal("From keeps its argument", n)
		}
		l = make4()
	}
	for _, ops := range [][]api.Op{l, {data("solo")}, {take(0, 4)}} {
		before := show(ops)
		made, _ := Apply(old, ops)
		spoil(made)
		spoil(Put(ops))
		Check(ops, 4)
		if string(old) != "abcd" || show(ops) != before {
			t.Fatal("an answer is its argument's memory")
		}
	}
}

// Rule 3: of a decoder's bytes.
func TestOwnMemoryOfFeed(t *testing.T) {
	s := "\x00\x02ab\x00\x03xyz\x01\x00\x02\x00\x02cd\x00\x04ef"
	room := []byte(s + "!!!!!!!!")
	d := New(6)
	l, _ := d.Feed(room[:len(s)])
	if string(room) != s+"!!!!!!!!" {
		t.Fatal("an argument was changed")
	}
	spoil(room)
	want := []api.Op{data("ab"), data("xyz"), take(0, 2), data("cd")}
	if show(l) != show(want) {
		t.Fatal("an argument is kept", show(l))
	}
	for i := range l {
		spoil(l[i].Data)
		for j, o := range l {
			if j > i && string(o.Data) != string(want[j].Data) {
				t.Error("two lists of an answer share memory", i, j)
			}
		}
	}
	spoilOps(l)
	l, err := d.Feed([]byte("gh\x00\x01i\x00"))
	if show(l) != show([]api.Op{data("efgh"), data("i")}) || err != api.OK {
		t.Error("a decoder's bytes were changed from outside", show(l), err)
	}
}

// P13.3, P13.4: as many bytes as a file may have, one by one: each call says how many are left over.
func TestByteByByte(t *testing.T) {
	all := strings.Repeat("abcd", 16384)
	b := Put([]api.Op{data(all)})
	d := New(0)
	for i := range len(b) - 1 {
		if l, err := d.Feed(b[i : i+1]); l != nil || err != api.OK || d.Made() != 0 || d.Rest() != i+1 {
			t.Fatal(i, show(l), err, d.Made(), d.Rest())
		}
	}
	if l, err := d.Feed(b[len(b)-1:]); show(l) != show([]api.Op{data(all)}) || err != api.OK || d.Made() != 65536 || d.Rest() != 0 {
		t.Error(len(l), err, d.Made(), d.Rest())
	}
}

func FuzzFeed(f *testing.F) { // P13.3, P13.4
	f.Add([]byte("\x01\x00\x06\x00\x02xy"), 6, 3)
	f.Add([]byte("\x00\x80\x01\x00\x01"), 6, 1)
	f.Add([]byte("\x01\x40\x05"), -1, 2)
	f.Fuzz(func(t *testing.T, b []byte, old, cut int) {
		if cut < 1 || len(b) > 20000 {
			t.Skip()
		}
		var pieces []string
		for p := range slices.Chunk(b, cut) {
			pieces = append(pieces, string(p))
		}
		if len(pieces) > 200 {
			t.Skip()
		}
		checkFeed(t, old, pieces)
		checkFeed(t, old, []string{string(b)})
		if l, _, rest, err := plainFeed(string(b), old); err == api.OK && string(Put(l)) != string(b[:len(b)-rest]) {
			t.Fatalf("%x: %s", b, show(l))
		}
	})
}

func FuzzFrom(f *testing.F) { // P13.2, P13.4
	f.Add(int64(1), 4)
	f.Fuzz(func(t *testing.T, seed int64, n int) {
		r := rand.New(rand.NewSource(seed))
		l := someOps(r, r.Intn(60))
		if show(From(l, n)) != show(plainFrom(l, n)) {
			t.Fatal(show(l), n)
		}
	})
}
