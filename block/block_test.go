package block

import (
	"bytes"
	"crypto/sha256"
	"math"
	"math/rand"
	"slices"
	"strings"
	"testing"

	"sumpter/api"
	"sumpter/roll"
	"sumpter/sha"
)

// plainWeak tells a weak sum by the words of chapter 6.
func plainWeak(s string) uint32 {
	a, b := 0, 0
	for i := range len(s) {
		a += int(s[i])
		b += (len(s) - i) * int(s[i])
	}
	return uint32(b%65536*65536 + a%65536)
}

// plainSig tells a block's sums, with Go's own SHA-256.
func plainSig(s string) api.Sig {
	return api.Sig{Weak: plainWeak(s), Strong: api.Hash(sha256.Sum256([]byte(s)))}
}

// plainSign cuts blocks off for as long as there are whole ones.
func plainSign(s string, size int) []api.Sig {
	var l []api.Sig
	for len(s) >= size {
		l = append(l, plainSig(s[:size]))
		s = s[size:]
	}
	return l
}

// num lays a number by the words of chapter 1, in the least width.
func num(n int) string {
	switch {
	case n < 1<<6:
		return string([]byte{byte(n)})
	case n < 1<<14:
		return string([]byte{0x40 | byte(n>>8), byte(n)})
	}
	return wide(n)
}

// wide lays a number below 2^30 in four bytes, whether it needs them or not.
func wide(n int) string {
	return string([]byte{0x80 | byte(n>>24), byte(n >> 16), byte(n >> 8), byte(n)})
}

// plainSums lays sums alone, by the words of P11.3.
func plainSums(l []api.Sig) string {
	var s strings.Builder
	for _, x := range l {
		s.Write([]byte{byte(x.Weak >> 24), byte(x.Weak >> 16), byte(x.Weak >> 8), byte(x.Weak)})
		s.Write(x.Strong[:])
	}
	return s.String()
}

// plainPut lays sums by the words of P11.3.
func plainPut(size, n int, l []api.Sig) string {
	return num(size) + num(n) + plainSums(l)
}

// plainError tells Put's error by the words of P11.3.
func plainError(size, n, sums int) api.Errno {
	if size < 1 || size > 4096 {
		return api.ErrArg
	}
	if n > 65536 || n < 0 {
		return api.ErrLong
	}
	blocks := 0
	for left := n; left >= size; left -= size {
		blocks++
	}
	if blocks != sums || sums > 4096 {
		return api.ErrRange
	}
	return api.OK
}

// plainFind goes over all blocks from the first on.
func plainFind(size int, l []api.Sig, b string) (int, bool) {
	if len(b) != size {
		return 0, false
	}
	for i, x := range l {
		if x == plainSig(b) {
			return i * size, true
		}
	}
	return 0, false
}

// some makes n sums, each another one.
func some(n int) []api.Sig {
	var l []api.Sig
	for i := range n {
		x := api.Sig{Weak: uint32(i)*0x01020304 + 0x80ff017f}
		for j := range x.Strong {
			x.Strong[j] = byte(i + 7*j)
		}
		l = append(l, x)
	}
	return l
}

// text makes n bytes by chance, of so many letters.
func text(r *rand.Rand, n, letters int) string {
	b := make([]byte, n)
	for i := range b {
		b[i] = byte('a' + r.Intn(letters))
	}
	return string(b)
}

// must makes an index, or stops the test.
func must(t *testing.T, size, n int, l []api.Sig) *Index {
	t.Helper()
	x, err := New(size, n, l)
	if err != api.OK || x == nil {
		t.Fatal("New", size, n, len(l), x == nil, err)
	}
	return x
}

// P11.1, and the chapter's example.
func TestSize(t *testing.T) {
	for _, c := range []struct{ n, want int }{
		{0, 16}, {257, 32}, {65536, 256},
		{math.MinInt, 16}, {-1, 16}, {1, 16}, {255, 16}, {256, 16}, {258, 32},
		{1023, 32}, {1024, 32}, {1025, 64}, {4096, 64}, {4097, 128}, {16384, 128}, {16385, 256}, {65535, 256},
		{65537, 512}, {1 << 18, 512}, {1<<18 + 1, 1024}, {1 << 20, 1024}, {1<<20 + 1, 2048}, {1 << 22, 2048},
		{1<<22 + 1, 4096}, {1 << 24, 4096}, {1<<24 + 1, 4096}, {1 << 40, 4096}, {math.MaxInt, 4096},
	} {
		if got := Size(c.n); got != c.want {
			t.Error(c.n, got, c.want)
		}
	}
}

// P11.1, by its words: of the powers that will do none is less.
func TestSizeIsTheLeast(t *testing.T) {
	for n := -20; n <= 70000; n++ {
		want := 0
		for _, p := range []int{4096, 2048, 1024, 512, 256, 128, 64, 32, 16} {
			if p*p >= n {
				want = p
			}
		}
		if got := Size(n); got != want {
			t.Fatal(n, got, want)
		}
	}
}

// P11.2, the chapter's example.
func TestSignExample(t *testing.T) {
	l, err := Sign([]byte("abcdefgh"), 3)
	want := []api.Sig{
		{Weak: roll.Sum([]byte("abc")), Strong: sha.Of([]byte("abc"))},
		{Weak: roll.Sum([]byte("def")), Strong: sha.Of([]byte("def"))},
	}
	if err != api.OK || !slices.Equal(l, want) {
		t.Error(l, err)
	}
	if l[0].Weak != 0x024a0126 || sha.Hex(l[0].Strong) != "ba7816bf8f01cfea414140de5dae2223b00361a396177a9cb410ff61f20015ad" {
		t.Errorf("%x %s", l[0].Weak, sha.Hex(l[0].Strong))
	}
}

// P11.2, by its words, of all small lengths and sizes.
func TestSign(t *testing.T) {
	r := rand.New(rand.NewSource(1))
	for n := range 40 {
		s := text(r, n, 3)
		for size := 1; size <= 45; size++ {
			l, err := Sign([]byte(s), size)
			if err != api.OK || !slices.Equal(l, plainSign(s, size)) {
				t.Fatal(n, size, l, err)
			}
		}
	}
	for range 60 {
		n := r.Intn(65537)
		size := 17 + r.Intn(4096-16)
		s := text(r, n, 26)
		l, err := Sign([]byte(s), size)
		if err != api.OK || !slices.Equal(l, plainSign(s, size)) {
			t.Fatal(n, size, len(l), err)
		}
	}
}

// P11.2, the edges of a size, of a file's length, and of how many blocks there are; ErrArg stands ahead of ErrLong.
func TestSignEdges(t *testing.T) {
	for _, c := range []struct {
		n, size int
		err     api.Errno
		blocks  int
	}{
		{0, 0, api.ErrArg, 0}, {0, -1, api.ErrArg, 0}, {0, math.MinInt, api.ErrArg, 0},
		{0, 4097, api.ErrArg, 0}, {0, math.MaxInt, api.ErrArg, 0}, {9000, 4097, api.ErrArg, 0},
		{65537, 0, api.ErrArg, 0}, {65537, 4097, api.ErrArg, 0}, {65537, -1, api.ErrArg, 0},
		{0, 1, api.OK, 0}, {0, 4096, api.OK, 0}, {1, 1, api.OK, 1}, {4095, 4096, api.OK, 0}, {4096, 4096, api.OK, 1},
		{4096, 1, api.OK, 4096}, {4097, 1, api.ErrLong, 0}, {4097, 2, api.OK, 2048},
		{8192, 2, api.OK, 4096}, {8193, 2, api.OK, 4096}, {8194, 2, api.ErrLong, 0},
		{65536, 16, api.OK, 4096}, {65536, 15, api.ErrLong, 0}, {61440, 15, api.OK, 4096}, {61454, 15, api.OK, 4096}, {61455, 15, api.ErrLong, 0},
		{65536, 4096, api.OK, 16}, {65537, 4096, api.ErrLong, 0}, {65537, 16, api.ErrLong, 0}, {65552, 16, api.ErrLong, 0}, {200000, 4096, api.ErrLong, 0},
	} {
		b := bytes.Repeat([]byte("x"), c.n)
		l, err := Sign(b, c.size)
		if err != c.err || len(l) != c.blocks || err != api.OK && l != nil {
			t.Error(c, len(l), err)
		}
	}
}

// P11.3: bytes that are written out.
func TestPutBytes(t *testing.T) {
	one := api.Sig{Weak: 0x01020304}
	for i := range one.Strong {
		one.Strong[i] = byte(0xa0 + i)
	}
	two := api.Sig{Weak: 0xfffefdfc}
	for _, c := range []struct {
		size, n int
		l       []api.Sig
		want    string
	}{
		{1, 0, nil, "\x01\x00"},
		{63, 62, nil, "\x3f\x3e"},
		{64, 63, nil, "\x40\x40\x3f"},
		{4096, 4095, nil, "\x50\x00\x4f\xff"},
		{3, 5, []api.Sig{one}, "\x03\x05\x01\x02\x03\x04" + string(one.Strong[:])},
		{3, 6, []api.Sig{two, one}, "\x03\x06\xff\xfe\xfd\xfc" + strings.Repeat("\x00", 32) + "\x01\x02\x03\x04" + string(one.Strong[:])},
		{4096, 16384, make([]api.Sig, 4), "\x50\x00\x80\x00\x40\x00" + strings.Repeat("\x00", 4*36)},
		{4096, 65536, make([]api.Sig, 16), "\x50\x00\x80\x01\x00\x00" + strings.Repeat("\x00", 16*36)},
	} {
		b, err := Put(c.size, c.n, c.l)
		if err != api.OK || string(b) != c.want {
			t.Errorf("%d %d: %x %v", c.size, c.n, b, err)
		}
		size, n, l, err := Get([]byte(c.want))
		if err != api.OK || size != c.size || n != c.n || !slices.Equal(l, c.l) {
			t.Error(c.size, c.n, size, n, l, err)
		}
	}
}

// edgeNumbers are sizes and lengths at and about the edges that the chapter names.
func edgeNumbers() []int {
	return []int{math.MinInt, -65536, -2, -1, 0, 1, 2, 3, 15, 16, 17, 4095, 4096, 4097, 8191, 8192, 8193, 65535, 65536, 65537, 1 << 40, math.MaxInt}
}

// P11.3 and P11.4: the errors of Put, which are New's as well, in their order.
func TestErrors(t *testing.T) {
	all := some(4200)
	for _, size := range edgeNumbers() {
		for _, n := range edgeNumbers() {
			counts := []int{0, 1, 2, 3, 15, 16, 17, 4095, 4096, 4097, 4200}
			if size > 0 && n/size > 0 && n/size < 4199 {
				counts = append(counts, n/size-1, n/size, n/size+1)
			}
			for _, k := range counts {
				want := plainError(size, n, k)
				b, err := Put(size, n, all[:k])
				if err != want || (err == api.OK) != (b != nil) {
					t.Fatal("Put", size, n, k, err, want)
				}
				x, err := New(size, n, all[:k])
				if err != want || (err == api.OK) != (x != nil) {
					t.Fatal("New", size, n, k, err, want)
				}
			}
		}
	}
}

// P11.3: as many sums as blocks are still too many, where they are above 4096.
func TestTooManySums(t *testing.T) {
	all := make([]api.Sig, 65536)
	for _, c := range []struct {
		size, n int
		err     api.Errno
	}{
		{1, 4096, api.OK}, {1, 4097, api.ErrRange}, {1, 65536, api.ErrRange}, {2, 8193, api.OK}, {2, 8194, api.ErrRange},
		{15, 65536, api.ErrRange}, {16, 65536, api.OK},
	} {
		if _, err := Put(c.size, c.n, all[:c.n/c.size]); err != c.err {
			t.Error("Put", c, err)
		}
		if _, err := New(c.size, c.n, all[:c.n/c.size]); err != c.err {
			t.Error("New", c, err)
		}
		b := plainPut(c.size, c.n, all[:c.n/c.size])
		want := c.err
		if want != api.OK {
			want = api.ErrForm
		}
		if _, _, l, err := Get([]byte(b)); err != want || err != api.OK && l != nil {
			t.Error("Get", c, err)
		}
	}
}

// P11.3: Put's bytes by the words, and Get takes them as they were.
func TestPutGet(t *testing.T) {
	all := some(4096)
	for size := 1; size <= 70; size++ {
		for n := 0; n <= 140; n++ {
			l := all[:n/size]
			b, err := Put(size, n, l)
			if err != api.OK || string(b) != plainPut(size, n, l) {
				t.Fatal(size, n, err)
			}
			gotSize, gotN, got, err := Get(b)
			if err != api.OK || gotSize != size || gotN != n || !slices.Equal(got, l) {
				t.Fatal(size, n, gotSize, gotN, len(got), err)
			}
		}
	}
	r := rand.New(rand.NewSource(2))
	for range 100 {
		n := r.Intn(65537)
		size := 16 + r.Intn(4081)
		l := all[:n/size]
		b, err := Put(size, n, l)
		if err != api.OK || string(b) != plainPut(size, n, l) {
			t.Fatal(size, n, err)
		}
		gotSize, gotN, got, err := Get(b)
		if err != api.OK || gotSize != size || gotN != n || !slices.Equal(got, l) {
			t.Fatal(size, n, gotSize, gotN, len(got), err)
		}
	}
}

// refuse asks that Get refuses bytes, and tells nothing beside.
func refuse(t *testing.T, what, b string) {
	t.Helper()
	size, n, l, err := Get([]byte(b))
	if err != api.ErrForm || size != 0 || n != 0 || l != nil {
		t.Errorf("%s: %x: %d %d %d %v", what, b[:min(len(b), 12)], size, n, len(l), err)
	}
}

// P11.3: bytes that Put does not lay.
func TestGetRefuses(t *testing.T) {
	two := plainSums(some(2))
	refuse(t, "nothing", "")
	refuse(t, "a size alone", "\x01")
	refuse(t, "a size of 0", "\x00\x00")
	refuse(t, "a size of 0, and sums", "\x00\x02"+two)
	refuse(t, "a size above 4096", num(4097)+"\x00")
	refuse(t, "a size far above 4096", "\xff\xff\xff\xff\xff\xff\xff\xff\x00")
	refuse(t, "a length above 65536", num(4096)+num(65537)+plainSums(some(16)))
	refuse(t, "a length far above 65536", "\x01\xff\xff\xff\xff\xff\xff\xff\xff")
	refuse(t, "a wide size", "\x40\x01\x02"+two)
	refuse(t, "a wider size", wide(1)+"\x02"+two)
	refuse(t, "a wide length", "\x01\x40\x02"+two)
	refuse(t, "a wider length", "\x01"+wide(2)+two)
	refuse(t, "the widest length", "\x01\xc0\x00\x00\x00\x00\x00\x00\x02"+two)
	refuse(t, "a byte more", "\x01\x02"+two+"\x00")
	refuse(t, "a sum more", "\x01\x01"+two)
	refuse(t, "a sum fewer", "\x01\x03"+two)
	refuse(t, "more sums than bytes, by far", num(1)+num(65536)+two)
	whole := "\x01\x02" + two
	for i := range len(whole) {
		refuse(t, "cut off", whole[:i])
	}
	if _, _, _, err := Get([]byte(whole)); err != api.OK {
		t.Error("whole", err)
	}
}

// P11.3: whatever bytes Get takes, Put lays, of what it told; what it does not take, Put does not lay.
func checkGet(t *testing.T, b []byte) {
	t.Helper()
	size, n, l, err := Get(b)
	if err == api.OK {
		if again, err := Put(size, n, l); err != api.OK || !bytes.Equal(again, b) {
			t.Fatalf("%x is not put again: %v", b, err)
		}
		return
	}
	if err != api.ErrForm || size != 0 || n != 0 || l != nil {
		t.Fatalf("%x: %d %d %v %v", b, size, n, l, err)
	}
}

// P11.3: bytes with one changed.
func TestGetChanged(t *testing.T) {
	for _, c := range []struct{ size, n int }{{1, 3}, {2, 5}, {64, 64}, {100, 300}, {4096, 16384}} {
		b, _ := Put(c.size, c.n, some(c.n/c.size))
		for i := range min(len(b), 12) {
			for v := range 256 {
				changed := bytes.Clone(b)
				changed[i] = byte(v)
				checkGet(t, changed)
			}
		}
	}
}

// P11.3: two bytes ahead, and all lengths of noughts behind: only those with just as many sums are taken.
func TestGetCounts(t *testing.T) {
	for size := range 5 {
		for n := range 6 {
			for behind := range 260 {
				b := string([]byte{byte(size), byte(n)}) + strings.Repeat("\x00", behind)
				_, _, l, err := Get([]byte(b))
				good := size > 0 && behind == n/size*36
				if (err == api.OK) != good || good && len(l) != n/size {
					t.Fatal(size, n, behind, len(l), err)
				}
			}
		}
	}
}

func FuzzGet(f *testing.F) {
	f.Add([]byte(plainPut(3, 7, some(2))))
	f.Add([]byte("\x01\x00"))
	f.Add([]byte(num(4096) + num(65536)))
	f.Fuzz(func(t *testing.T, b []byte) { checkGet(t, b) })
}

// P11.4: Find, Weak, Size and Len by the words, of texts of few letters, so that blocks come again.
func TestIndex(t *testing.T) {
	r := rand.New(rand.NewSource(3))
	for range 400 {
		size := 1 + r.Intn(5)
		s := text(r, r.Intn(40), 1+r.Intn(3))
		l := plainSign(s, size)
		x := must(t, size, len(s), l)
		if x.Size() != size || x.Len() != len(l) {
			t.Fatal(s, size, x.Size(), x.Len())
		}
		for range 60 {
			b := text(r, r.Intn(7), 3)
			wantAt, want := plainFind(size, l, b)
			if at, ok := x.Find([]byte(b)); at != wantAt || ok != want {
				t.Fatal(s, size, b, at, ok, wantAt, want)
			}
			weak := slices.ContainsFunc(l, func(g api.Sig) bool { return g.Weak == plainWeak(b) })
			if x.Weak(plainWeak(b)) != weak {
				t.Fatal(s, size, b, "weak", weak)
			}
		}
	}
}

// twins are two texts with one weak sum.
const (
	twin  = "\x02\x00\x02"
	other = "\x01\x02\x01"
)

// P11.4: blocks with one weak sum are held apart by the strong one.
func TestSameWeak(t *testing.T) {
	if twin == other || plainWeak(twin) != plainWeak(other) || roll.Sum([]byte(twin)) != roll.Sum([]byte(other)) {
		t.Fatal("no twins")
	}
	x := must(t, 3, 12, plainSign(other+twin+other+twin, 3))
	if at, ok := x.Find([]byte(other)); at != 0 || !ok {
		t.Error(at, ok)
	}
	if at, ok := x.Find([]byte(twin)); at != 3 || !ok {
		t.Error(at, ok)
	}
	alone := must(t, 3, 3, plainSign(other, 3))
	if at, ok := alone.Find([]byte(twin)); at != 0 || ok || !alone.Weak(plainWeak(twin)) {
		t.Error("the strong sum is not asked", at, ok)
	}
}

// P11.4: both sums must be those of the bytes, as they were told, whichever file they are of.
func TestBothSums(t *testing.T) {
	right := plainSig("abc")
	for _, c := range []struct {
		sig  api.Sig
		weak bool
		find bool
	}{
		{right, true, true},
		{api.Sig{Weak: right.Weak + 1, Strong: right.Strong}, false, false},
		{api.Sig{Weak: right.Weak, Strong: plainSig("abd").Strong}, true, false},
		{api.Sig{}, false, false},
	} {
		x := must(t, 3, 6, []api.Sig{{Weak: 5}, c.sig})
		at, ok := x.Find([]byte("abc"))
		if ok != c.find || ok && at != 3 || !ok && at != 0 || x.Weak(right.Weak) != c.weak || !x.Weak(5) {
			t.Error(c, at, ok)
		}
	}
	for i := range right.Strong {
		wrong := right
		wrong.Strong[i] ^= 0x80
		if _, ok := must(t, 3, 3, []api.Sig{wrong}).Find([]byte("abc")); ok {
			t.Error("found with another strong sum", i)
		}
	}
}

// P11.4: only bytes of the blocks' size are found, even where the sums told are those of others.
func TestFindSize(t *testing.T) {
	for _, told := range []string{"", "a", "ab", "abc", "abcd"} {
		x := must(t, 3, 3, []api.Sig{plainSig(told)})
		at, ok := x.Find([]byte(told))
		if ok != (len(told) == 3) || at != 0 || !x.Weak(plainWeak(told)) {
			t.Error(told, at, ok)
		}
	}
	none := must(t, 4, 3, nil)
	for _, b := range []string{"", "abc", "abcd"} {
		if at, ok := none.Find([]byte(b)); at != 0 || ok || none.Weak(plainWeak(b)) {
			t.Error(b, at, ok)
		}
	}
	if none.Size() != 4 || none.Len() != 0 {
		t.Error(none.Size(), none.Len())
	}
}

// P11.4: a weak sum is asked whole.
func TestWeakBits(t *testing.T) {
	const w = 0x89abcdef
	x := must(t, 9, 9, []api.Sig{{Weak: w}})
	for i := range 32 {
		if x.Weak(w ^ 1<<i) {
			t.Error(i)
		}
	}
	if !x.Weak(w) || x.Weak(0) || x.Weak(math.MaxUint32) {
		t.Error("weak")
	}
	if zero := must(t, 9, 9, make([]api.Sig, 1)); !zero.Weak(0) || zero.Weak(1) {
		t.Error("a weak sum of 0")
	}
}

// P11.4: Size and Len at their edges; blocks with the same sums count each.
func TestIndexEdges(t *testing.T) {
	for _, c := range []struct{ size, n, blocks int }{{1, 0, 0}, {1, 4096, 4096}, {16, 65536, 4096}, {4096, 65536, 16}, {4096, 4095, 0}, {4096, 8191, 1}} {
		x := must(t, c.size, c.n, make([]api.Sig, c.blocks))
		if x.Size() != c.size || x.Len() != c.blocks {
			t.Error(c, x.Size(), x.Len())
		}
	}
}

// P11.4: of nil.
func TestNilIndex(t *testing.T) {
	var x *Index
	at, ok := x.Find(nil)
	if x.Weak(0) || at != 0 || ok || x.Size() != 0 || x.Len() != 0 {
		t.Error(at, ok)
	}
	if at, ok := x.Find([]byte("abc")); at != 0 || ok {
		t.Error(at, ok)
	}
}

// P11.5: each block of a file is found, at its place, or at one ahead with the same bytes.
func TestEachBlockIsFound(t *testing.T) {
	r := rand.New(rand.NewSource(4))
	for range 150 {
		n := r.Intn(3000)
		s := text(r, n, 1+r.Intn(4))
		size := 1 + r.Intn(300)
		if r.Intn(3) == 0 {
			size = Size(n)
		}
		l, err := Sign([]byte(s), size)
		if err != api.OK {
			t.Fatal(err)
		}
		x := must(t, size, n, l)
		for at := 0; at+size <= n; at += size {
			b := s[at : at+size]
			got, ok := x.Find([]byte(b))
			if !ok || got > at || got%size != 0 || s[got:got+size] != b || !x.Weak(plainWeak(b)) {
				t.Fatal(n, size, at, got, ok)
			}
			if first, _ := plainFind(size, l, b); got != first {
				t.Fatal("not the first", n, size, at, got, first)
			}
		}
	}
}

// P11.5: a file of the greatest length, with blocks of all kinds, through Put and Get.
func TestGreatestFile(t *testing.T) {
	r := rand.New(rand.NewSource(5))
	s := text(r, 65536, 26)
	for _, size := range []int{16, Size(65536), 1000, 4096} {
		l, err := Sign([]byte(s), size)
		if err != api.OK {
			t.Fatal(err)
		}
		b, err := Put(size, len(s), l)
		if err != api.OK {
			t.Fatal(err)
		}
		gotSize, n, got, err := Get(b)
		if err != api.OK {
			t.Fatal(err)
		}
		x := must(t, gotSize, n, got)
		for at := 0; at+size <= len(s); at += size {
			if found, ok := x.Find([]byte(s[at : at+size])); found != at || !ok {
				t.Fatal(size, at, found, ok)
			}
		}
	}
}

// Rule 3: an index has what it was given, not what becomes of it; arguments stay as they are.
func TestOwnMemory(t *testing.T) {
	file := []byte("abcabcxyz0")
	l, _ := Sign(file, 3)
	if string(file) != "abcabcxyz0" {
		t.Error("Sign changed its bytes")
	}
	kept := slices.Clone(l)
	x := must(t, 3, 10, l)
	b, _ := Put(3, 10, l)
	laid := string(b)
	_, _, got, _ := Get(b)
	if string(b) != laid || !slices.Equal(l, kept) {
		t.Error("an argument changed")
	}
	clear(l)
	clear(b)
	clear(file)
	if at, ok := x.Find([]byte("xyz")); at != 6 || !ok || !x.Weak(plainWeak("abc")) || x.Weak(0) {
		t.Error("New keeps its argument", at, ok)
	}
	if !slices.Equal(got, kept) {
		t.Error("Get's answer is its argument's memory")
	}
	again := must(t, 3, 10, kept)
	if again == x || again.Len() != 3 {
		t.Error("indexes are not their own")
	}
	block := []byte("xyz")
	if x.Find(block); string(block) != "xyz" {
		t.Error("Find changed its bytes")
	}
}

// Rule 3: the room behind an argument's end is not touched.
func TestSpareRoom(t *testing.T) {
	room := []byte("abcdefghijkl")
	if l, err := Sign(room[:7], 3); err != api.OK || !slices.Equal(l, plainSign("abcdefg", 3)) {
		t.Error(l, err)
	}
	sums := append(some(2), some(1)...)
	if _, err := Put(3, 7, sums[:2]); err != api.OK || !slices.Equal(sums, append(some(2), some(1)...)) {
		t.Error("Put", err)
	}
	laid := []byte(plainPut(3, 7, some(2)) + "more")
	if _, _, _, err := Get(laid[:len(laid)-4]); err != api.OK || !strings.HasSuffix(string(laid), "more") {
		t.Error("Get", err)
	}
	if string(room) != "abcdefghijkl" {
		t.Error("Sign changed the room")
	}
}
