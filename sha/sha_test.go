package sha

import (
	"bytes"
	"math/big"
	"math/bits"
	"slices"
	"strings"
	"testing"

	"sumpter/api"
)

// primes tells the first n primes.
func primes(n int) []int64 {
	var list []int64
	for p := int64(2); len(list) < n; p++ {
		if !slices.ContainsFunc(list, func(q int64) bool { return p%q == 0 }) {
			list = append(list, p)
		}
	}
	return list
}

// rootBits tells the first 32 bits behind the point of a number's root, by whole numbers alone.
func rootBits(n int64, power int) uint32 {
	power64 := big.NewInt(int64(power))
	most := new(big.Int).Lsh(big.NewInt(n), uint(32*power))
	root := new(big.Int)
	for bit := 40; bit >= 0; bit-- {
		more := new(big.Int).SetBit(root, bit, 1)
		if new(big.Int).Exp(more, power64, nil).Cmp(most) <= 0 {
			root = more
		}
	}
	return uint32(root.Uint64())
}

// plain is P4.1 word by word, as FIPS 180-4 writes it: the whole padded text first, the constants worked out of the primes.
func plain(b []byte) api.Hash {
	text := append(bytes.Clone(b), 0x80)
	for len(text)%64 != 56 {
		text = append(text, 0)
	}
	for shift := 56; shift >= 0; shift -= 8 {
		text = append(text, byte(uint64(len(b))*8>>shift))
	}
	var state [8]uint32
	copy(state[:], plainFirst)
	for ; len(text) > 0; text = text[64:] {
		plainBlock(&state, text[:64])
	}
	var x api.Hash
	for i := range x {
		x[i] = byte(state[i/4] >> (24 - 8*(i%4)))
	}
	return x
}

var plainRounds, plainFirst = roots(64, 3), roots(8, 2)

func roots(n, power int) []uint32 {
	var list []uint32
	for _, p := range primes(n) {
		list = append(list, rootBits(p, power))
	}
	return list
}

func plainBlock(state *[8]uint32, block []byte) {
	rotr := func(x uint32, n int) uint32 { return bits.RotateLeft32(x, 32-n) }
	var w [64]uint32
	for i := range w {
		if i < 16 {
			for _, b := range block[4*i : 4*i+4] {
				w[i] = w[i]*256 + uint32(b)
			}
			continue
		}
		s0 := rotr(w[i-15], 7) ^ rotr(w[i-15], 18) ^ w[i-15]>>3
		s1 := rotr(w[i-2], 17) ^ rotr(w[i-2], 19) ^ w[i-2]>>10
		w[i] = w[i-16] + s0 + w[i-7] + s1
	}
	v := *state
	for i := range w {
		s1 := rotr(v[4], 6) ^ rotr(v[4], 11) ^ rotr(v[4], 25)
		s0 := rotr(v[0], 2) ^ rotr(v[0], 13) ^ rotr(v[0], 22)
		ch := v[4]&v[5] | ^v[4]&v[6]
		maj := v[0]&v[1] | v[0]&v[2] | v[1]&v[2]
		t1 := v[7] + s1 + ch + plainRounds[i] + w[i]
		copy(v[1:], slices.Clone(v[:7]))
		v[4] += t1
		v[0] = t1 + s0 + maj
	}
	for i := range state {
		state[i] += v[i]
	}
}

// many makes bytes of all kinds, the same ones each time.
func many(n int) []byte {
	b := make([]byte, n)
	state := uint32(1)
	for i := range b {
		state = state*1664525 + 1013904223
		b[i] = byte(state >> 24)
	}
	return b
}

// samples are texts of all lengths up to some blocks, and some greater ones.
func samples() [][]byte {
	list := [][]byte{nil, {}, {0}, {0xff}, {0x80}, make([]byte, 56), make([]byte, 64), bytes.Repeat([]byte{0xff}, 64)}
	for n := range 5*blockSize + 2 {
		list = append(list, many(n))
	}
	return append(list, many(4096), many(api.MaxFile), many(1<<17+1))
}

// spoil changes all of a list, with its spare room.
func spoil(b []byte) {
	b = b[:cap(b)]
	for i := range b {
		b[i] ^= 0xff
	}
}

// steps writes a text by pieces of a length.
func steps(h *Hasher, b []byte, step int) {
	for ; len(b) > 0; b = b[min(step, len(b)):] {
		h.Write(b[:min(step, len(b))])
	}
}

func TestExample(t *testing.T) { // the chapter's example 1
	want := api.Hash{
		0xba, 0x78, 0x16, 0xbf, 0x8f, 0x01, 0xcf, 0xea, 0x41, 0x41, 0x40, 0xde, 0x5d, 0xae, 0x22, 0x23,
		0xb0, 0x03, 0x61, 0xa3, 0x96, 0x17, 0x7a, 0x9c, 0xb4, 0x10, 0xff, 0x61, 0xf2, 0x00, 0x15, 0xad,
	}
	if got := Of([]byte("abc")); got != want {
		t.Errorf("Of(`abc`) = %x", got)
	}
}

func TestWords(t *testing.T) { // the chapter's words: K and the first state
	if !slices.Equal(rounds[:], plainRounds) {
		t.Errorf("the round words are %x, want %x", rounds, plainRounds)
	}
	if !slices.Equal(first[:], plainFirst) {
		t.Errorf("the first state is %x, want %x", first, plainFirst)
	}
}

func TestOf(t *testing.T) { // P4.1
	for _, c := range []struct{ s, want string }{
		{"", "e3b0c44298fc1c149afbf4c8996fb92427ae41e4649b934ca495991b7852b855"},
		{"a", "ca978112ca1bbdcafac231b39a23dc4da786eff8147c4e72b9807785afee48bb"},
		{"\xbd", "68325720aabd7c82f30f554b313d0570c95accbb7dc4b5aae11204c08ffe732b"},
		{"abcdbcdecdefdefgefghfghighijhijkijkljklmklmnlmnomnopnopq", "248d6a61d20638b8e5c026930c3e6039a33ce45964ff2167f6ecedd419db06c1"},
		{"abcdefghbcdefghicdefghijdefghijkefghijklfghijklmghijklmnhijklmnoijklmnopjklmnopqklmnopqrlmnopqrsmnopqrstnopqrstu", "cf5b16a778af8380036ce59e7b0492370b249b11e8f07a51afac45037afee9d1"},
		{"The quick brown fox jumps over the lazy dog", "d7a8fbb307d7809469ca9abcb0082e4f8d5651e46d3cdb762d02d0bf37c9e592"},
		{strings.Repeat("a", 1000000), "cdc76e5c9914fb9281a1c7e284d73e67f1809a48a497200e046d39ccc7112cd0"},
	} {
		if got := Hex(Of([]byte(c.s))); got != c.want {
			t.Errorf("Of %d bytes, %.20q..: %s, want %s", len(c.s), c.s, got, c.want)
		}
	}
}

func TestOfEachLength(t *testing.T) { // P4.1: the padding in one block more, or not
	for _, b := range samples() {
		if got, want := Of(b), plain(b); got != want {
			t.Errorf("Of %d bytes: %x, want %x", len(b), got, want)
		}
	}
}

func TestPadding(t *testing.T) { // P4.1: numbers of bits of more than four bytes, too
	for _, size := range []int{0, 1, 31, 54, 55, 56, 57, 63, 64, 119, 120, 1<<29 - 1, 1 << 29, 1<<29 + 56, 1<<31 - 9, 1<<31 - 1} {
		pad := padding(size)
		if (size+len(pad))%64 != 0 || len(pad) < 9 || len(pad) > 72 {
			t.Fatalf("%d bytes are padded with %d", size, len(pad))
		}
		noughts, count := pad[1:len(pad)-8], new(big.Int).SetBytes(pad[len(pad)-8:]).Uint64()
		if pad[0] != 0x80 || bytes.Count(noughts, []byte{0}) != len(noughts) || count != 8*uint64(size) {
			t.Errorf("%d bytes are padded with %x", size, pad)
		}
	}
}

func TestOfParts(t *testing.T) { // P4.1, P4.4
	if Of() != plain(nil) || Of(nil) != plain(nil) || Of([][]byte{}...) != plain(nil) || Of(nil, []byte{}, nil) != plain(nil) {
		t.Error("Of nothing hangs on how many parts it has")
	}
	if Of([]byte("ab"), []byte("c")) != Of([]byte("abc")) || Of([]byte("c"), []byte("ab")) != plain([]byte("cab")) {
		t.Error("Of two parts")
	}
	for _, n := range []int{1, 2, 55, 56, 63, 64, 65, 128, 200} {
		b := many(n)
		want := plain(b)
		for cut := range n + 1 {
			if Of(b[:cut], b[cut:]) != want {
				t.Errorf("%d bytes cut at %d", n, cut)
			}
			for more := cut; more <= n; more += 7 {
				if Of(nil, b[:cut], b[cut:more], nil, b[more:], []byte{}) != want {
					t.Errorf("%d bytes cut at %d and %d", n, cut, more)
				}
			}
		}
	}
	b := many(300)
	if Of(slices.Collect(slices.Chunk(b, 1))...) != plain(b) {
		t.Error("300 parts of a byte")
	}
}

func TestHasher(t *testing.T) { // P4.2, P4.4
	h := New()
	if h == nil || h.Len() != 0 || h.Sum() != plain(nil) {
		t.Fatal("New is not of nothing")
	}
	b := many(700)
	for _, step := range []int{1, 2, 3, 8, 31, 55, 56, 63, 64, 65, 127, 128, 129, 200, 699, 700, 701} {
		h := New()
		steps(h, b, step)
		if h.Sum() != plain(b) || h.Len() != len(b) {
			t.Errorf("by steps of %d: Len %d", step, h.Len())
		}
	}
}

func TestSumGoesOn(t *testing.T) { // P4.2
	b := many(300)
	h := New()
	for n := range len(b) {
		want := plain(b[:n])
		for range 3 {
			if h.Sum() != want || h.Len() != n {
				t.Fatalf("behind %d bytes: %x, Len %d, want %x", n, h.Sum(), h.Len(), want)
			}
		}
		h.Write(nil)
		h.Write([]byte{})
		h.Write(b[n : n+1])
	}
	h.Write(b)
	if h.Sum() != plain(slices.Concat(b, b)) || h.Len() != 600 {
		t.Errorf("at the end: Len %d", h.Len())
	}
}

func TestFork(t *testing.T) { // P4.2
	b, more := many(200), bytes.Repeat([]byte("more"), 40)
	for n := range len(b) + 1 {
		h := New()
		h.Write(b[:n])
		fork := h.Fork()
		if fork == nil || fork == h || fork.Sum() != plain(b[:n]) || fork.Len() != n {
			t.Fatalf("a fork behind %d bytes", n)
		}
		h.Write(b[n:])
		if fork.Sum() != plain(b[:n]) || fork.Len() != n {
			t.Fatalf("the hasher changed its fork behind %d bytes", n)
		}
		second := fork.Fork()
		fork.Write(more)
		if h.Sum() != plain(b) || h.Len() != len(b) || second.Sum() != plain(b[:n]) || second.Len() != n {
			t.Fatalf("a fork changed another hasher behind %d bytes", n)
		}
		if fork.Sum() != plain(slices.Concat(b[:n], more)) || fork.Len() != n+len(more) {
			t.Fatalf("a fork went on wrong behind %d bytes", n)
		}
		second.Write(b[n:])
		if second.Sum() != plain(b) || fork.Len() != n+len(more) {
			t.Fatalf("a fork's fork went on wrong behind %d bytes", n)
		}
	}
}

func TestNilHasher(t *testing.T) { // P4.2
	var h *Hasher
	h.Write(nil)
	h.Write([]byte("abc"))
	if h.Sum() != (api.Hash{}) || h.Len() != 0 || h.Fork() != nil {
		t.Errorf("of nil: %x, %d, %v", h.Sum(), h.Len(), h.Fork())
	}
}

func TestHashersApart(t *testing.T) {
	one, other := New(), New()
	one.Write(many(100))
	if other.Len() != 0 || other.Sum() != plain(nil) || New().Sum() != plain(nil) {
		t.Fatal("a hasher changed another one")
	}
	other.Write([]byte("abc"))
	if one.Sum() != plain(many(100)) || one.Len() != 100 || other.Sum() != plain([]byte("abc")) {
		t.Error("two hashers have something in common")
	}
}

func TestArguments(t *testing.T) { // neither changed nor kept
	for _, n := range []int{0, 1, 10, 63, 64, 65, 130} {
		b := append(make([]byte, 0, 256), many(n)...)
		want := bytes.Clone(b[:cap(b)])
		h := New()
		h.Write([]byte("ahead"))
		h.Write(b)
		sum := h.Sum()
		parts := [][]byte{b, b}
		if Of(parts...) != plain(slices.Concat(b, b)) || len(parts[0]) != n || len(parts[1]) != n {
			t.Errorf("Of twice %d bytes", n)
		}
		if !bytes.Equal(b[:cap(b)], want) {
			t.Fatalf("%d bytes were changed: %x", n, b[:cap(b)])
		}
		spoil(b)
		if h.Sum() != sum || sum != plain(append([]byte("ahead"), want[:n]...)) {
			t.Errorf("%d bytes are kept by the hasher", n)
		}
	}
}

func TestHex(t *testing.T) { // P4.3
	for _, c := range []struct {
		x    api.Hash
		want string
	}{
		{api.Hash{}, strings.Repeat("0", 64)},
		{api.Hash{0: 1}, "01" + strings.Repeat("0", 62)},
		{api.Hash{0: 0xf0}, "f0" + strings.Repeat("0", 62)},
		{api.Hash{31: 0xab}, strings.Repeat("0", 62) + "ab"},
		{api.Hash{0x01, 0x23, 0x45, 0x67, 0x89, 0xab, 0xcd, 0xef}, "0123456789abcdef" + strings.Repeat("0", 48)},
		{api.Hash(bytes.Repeat([]byte{0xff}, 32)), strings.Repeat("f", 64)},
		{Of([]byte("abc")), "ba7816bf8f01cfea414140de5dae2223b00361a396177a9cb410ff61f20015ad"},
	} {
		if got := Hex(c.x); got != c.want {
			t.Errorf("Hex(%x) = %s, want %s", c.x, got, c.want)
		}
		if got, err := Parse(c.want); got != c.x || err != api.OK {
			t.Errorf("Parse(%s) = %x, %d", c.want, got, int(err))
		}
	}
}

func TestParseWrong(t *testing.T) { // P4.3
	right := Hex(Of([]byte("abc")))
	for _, s := range []string{
		"", "G", "0", "ba", right[:62], right[:63], right[1:], right + "0", right + "00", right + right, right + " ", " " + right, right + "\n", right + "\x00",
		" " + right[1:], right[:63] + " ", right[:63] + "\n", "0x" + right[2:], "+" + right[1:], "-" + right[1:], right[:62] + "_0",
		strings.ToUpper(right), "B" + right[1:], right[:63] + "D", right[:10] + "g" + right[11:], right[:62] + "\u00e9", right[:60] + "\u0661\u0661", strings.Repeat("\u0661", 32), strings.Repeat("\u00e9", 64), strings.Repeat("\xff", 64),
	} {
		if got, err := Parse(s); got != (api.Hash{}) || err != api.ErrForm {
			t.Errorf("Parse(%q) = %x, %d, want nothing, ErrForm", s, got, int(err))
		}
	}
}

func TestParseEachByte(t *testing.T) { // P4.3: each byte at each place
	right := []byte(Hex(Of([]byte("abc"))))
	for place := range right {
		for b := range 256 {
			s := bytes.Clone(right)
			s[place] = byte(b)
			got, err := Parse(string(s))
			if b >= '0' && b <= '9' || b >= 'a' && b <= 'f' {
				if err != api.OK || Hex(got) != string(s) {
					t.Fatalf("Parse(%q) = %x, %d", s, got, int(err))
				}
				continue
			}
			if err != api.ErrForm || got != (api.Hash{}) {
				t.Fatalf("Parse(%q) = %x, %d, want ErrForm", s, got, int(err))
			}
		}
	}
}

func TestLess(t *testing.T) { // P4.3
	for _, c := range []struct {
		a, b api.Hash
		want bool
	}{
		{api.Hash{}, api.Hash{}, false}, {api.Hash{}, api.Hash{31: 1}, true}, {api.Hash{31: 1}, api.Hash{}, false},
		{api.Hash{1}, api.Hash{0, 2}, false}, {api.Hash{0, 2}, api.Hash{1}, true}, {api.Hash{1, 2}, api.Hash{1, 3}, true}, {api.Hash{1, 3}, api.Hash{1, 2}, false},
		{api.Hash{0x7f}, api.Hash{0x80}, true}, {api.Hash{0xff}, api.Hash{0x01}, false}, {api.Hash{5, 31: 9}, api.Hash{5, 31: 9}, false},
	} {
		if got := Less(c.a, c.b); got != c.want {
			t.Errorf("Less(%x, %x) = %v", c.a, c.b, got)
		}
	}
	var sums []api.Hash
	for n := range 40 {
		x := Of(many(n))
		near := x
		near[n%32] ^= 1
		var thin api.Hash
		thin[n%32] = byte(n * 7)
		sums = append(sums, x, near, thin)
	}
	for _, a := range sums {
		for _, b := range sums {
			if got, want := Less(a, b), Hex(a) < Hex(b); got != want || got && Less(b, a) || a != b && !got && !Less(b, a) {
				t.Errorf("Less(%x, %x) = %v", a, b, got)
			}
		}
	}
}

func FuzzSha(f *testing.F) { // P4.1 to P4.4
	f.Add([]byte("abc"), 1, "ba7816bf8f01cfea414140de5dae2223b00361a396177a9cb410ff61f20015ad")
	f.Add(many(130), 64, "BA")
	f.Fuzz(func(t *testing.T, b []byte, cut int, s string) {
		want := plain(b)
		cut = int(uint(cut) % uint(len(b)+1))
		h := New()
		h.Write(b[:cut])
		fork := h.Fork()
		h.Write(b[cut:])
		if Of(b) != want || Of(b[:cut], b[cut:]) != want || h.Sum() != want || fork.Sum() != plain(b[:cut]) || h.Len() != len(b) {
			t.Fatalf("%x cut at %d", b, cut)
		}
		if x, err := Parse(Hex(want)); x != want || err != api.OK {
			t.Fatalf("Parse(Hex(%x)) = %x, %d", want, x, int(err))
		}
		x, err := Parse(s)
		if err == api.OK && Hex(x) != s || err != api.OK && (err != api.ErrForm || x != (api.Hash{})) {
			t.Fatalf("Parse(%q) = %x, %d", s, x, int(err))
		}
		if Less(x, want) != (Hex(x) < Hex(want)) {
			t.Fatalf("Less(%x, %x)", x, want)
		}
	})
}
