package mac

import (
	"bytes"
	"slices"
	"strings"
	"testing"

	"sumpter/api"
	"sumpter/sha"
)

// plain is P5.1 word by word, over whole texts.
func plain(key, text []byte) api.Hash {
	if len(key) > 64 {
		sum := sha.Of(key)
		key = sum[:]
	}
	var outer, inner []byte
	for i := range 64 {
		var b byte
		if i < len(key) {
			b = key[i]
		}
		outer, inner = append(outer, b^0x5c), append(inner, b^0x36)
	}
	sum := sha.Of(append(inner, text...))
	return sha.Of(append(outer, sum[:]...))
}

// laid tells a text with its length ahead, as varints have it.
func laid(b []byte) []byte {
	n := len(b)
	switch {
	case n < 1<<6:
		return append([]byte{byte(n)}, b...)
	case n < 1<<14:
		return append([]byte{0x40 | byte(n>>8), byte(n)}, b...)
	}
	return append([]byte{0x80 | byte(n>>24), byte(n >> 16), byte(n >> 8), byte(n)}, b...)
}

// plainTag is the tag of a head and a body.
func plainTag(key api.Hash, head, body []byte) []byte {
	sum := plain(key[:], append(laid(head), body...))
	return sum[:16]
}

// many makes bytes of all kinds, the same ones each time.
func many(n int) []byte {
	b := make([]byte, n)
	state := uint32(1)
	for i := range b {
		state = state*1664525 + 1013904223
		b[i] = byte(state >> 24)
	}
	return b
}

// samples are texts about the lengths at which blocks end and lengths grow.
func samples() [][]byte {
	list := [][]byte{nil, {}, {0}, {0xff}, make([]byte, 16), make([]byte, 64), bytes.Repeat([]byte{0xff}, 17)}
	for _, n := range []int{1, 2, 15, 16, 17, 31, 32, 33, 55, 56, 62, 63, 64, 65, 127, 128, 129, 1200, 1<<14 - 1, 1 << 14, 1<<16 + 1} {
		list = append(list, many(n))
	}
	return list
}

// spoil changes all of a list, with its spare room.
func spoil(b []byte) {
	b = b[:cap(b)]
	for i := range b {
		b[i] ^= 0xff
	}
}

// roomy tells a copy with spare room behind it.
func roomy(b []byte) []byte {
	return append(make([]byte, 0, len(b)+100), b...)
}

func hex(t *testing.T, s string) []byte {
	t.Helper()
	x, err := sha.Parse(s + strings.Repeat("0", 64-len(s)))
	if err != api.OK {
		t.Fatalf("%s are no digits", s)
	}
	return x[:len(s)/2]
}

func TestExample(t *testing.T) { // the chapter's example 1
	want := api.Hash{
		0xf7, 0xbc, 0x83, 0xf4, 0x30, 0x53, 0x84, 0x24, 0xb1, 0x32, 0x98, 0xe6, 0xaa, 0x6f, 0xb1, 0x43,
		0xef, 0x4d, 0x59, 0xa1, 0x49, 0x46, 0x17, 0x59, 0x97, 0x47, 0x9d, 0xbc, 0x2d, 0x1a, 0x3c, 0xd8,
	}
	if got := Of([]byte("key"), []byte("The quick brown fox jumps over the lazy dog")); got != want {
		t.Errorf("Of = %x", got)
	}
}

func TestOf(t *testing.T) { // P5.1: the texts of RFC 4231, and keys about 64 bytes
	long := strings.Repeat("\xaa", 131)
	for _, c := range []struct{ key, text, want string }{
		{"", "", "b613679a0814d9ec772f95d778c35fc5ff1697c493715653c6c712144292c5ad"},
		{strings.Repeat("\x0b", 20), "Hi There", "b0344c61d8db38535ca8afceaf0bf12b881dc200c9833da726e9376c2e32cff7"},
		{"Jefe", "what do ya want for nothing?", "5bdcc146bf60754e6a042426089575c75a003f089d2739839dec58b964ec3843"},
		{long[:20], strings.Repeat("\xdd", 50), "773ea91e36800e46854db8ebd09181a72959098b3ef8c122d9635514ced565fe"},
		{"\x01\x02\x03\x04\x05\x06\x07\x08\x09\x0a\x0b\x0c\x0d\x0e\x0f\x10\x11\x12\x13\x14\x15\x16\x17\x18\x19", strings.Repeat("\xcd", 50), "82558a389a443c0ea4cc819899f2083a85f0faa3e578f8077a2e3ff46729665b"},
		{long, "Test Using Larger Than Block-Size Key - Hash Key First", "60e431591ee0b67f0d8a26aacbf5b77f8e0bc6213728c5140546040f0ee37f54"},
		{long, "This is a test using a larger than block-size key and a larger than block-size data. The key needs to be hashed before being used by the HMAC algorithm.", "9b09ffa71b942fcb27635fbcd5b0e944bfdc63644f0713938a7f51535c3a35e2"},
		{strings.Repeat("k", 63), "abc", "23670528b6b8c55d2f8ef2f36c1f000cec7c23ec76881c485f2e89b5fe705cca"},
		{strings.Repeat("k", 64), "abc", "ae0c0e4a2340cf50185eb46aaa8723f4769153661612e212fb0d1fa3170c6202"},
		{strings.Repeat("k", 65), "abc", "ed378e5dfa30dc98814ba09b2e610d9b6af66054922ceef9480da094a3f11b2d"},
	} {
		if got := sha.Hex(Of([]byte(c.key), []byte(c.text))); got != c.want {
			t.Errorf("Of(%q, %q) = %s, want %s", c.key, c.text, got, c.want)
		}
	}
}

func TestOfKeys(t *testing.T) { // P5.1
	for n := range 200 {
		key := many(n)
		for _, text := range [][]byte{nil, {0}, many(31), many(64), many(100)} {
			if got, want := Of(key, text), plain(key, text); got != want {
				t.Errorf("a key of %d bytes, a text of %d: %x, want %x", n, len(text), got, want)
			}
		}
		if n < 64 && Of(key, []byte("abc")) != Of(append(key, 0), []byte("abc")) {
			t.Errorf("a nought behind a key of %d bytes is not as none", n)
		}
	}
	key := many(64)
	if Of(key) == Of(append(key, 0)) {
		t.Error("a nought behind a key of 64 bytes is as none")
	}
	sum := sha.Of(many(65))
	if Of(many(65), []byte("abc")) != Of(sum[:], []byte("abc")) {
		t.Error("a key of 65 bytes is not its sum")
	}
	for i := range key { // each byte of it counts
		other := bytes.Clone(key)
		other[i] ^= 1
		if Of(other, []byte("abc")) == Of(key, []byte("abc")) {
			t.Errorf("byte %d of a key does not count", i)
		}
	}
}

func TestOfParts(t *testing.T) { // P5.1, P5.4
	key := []byte("key")
	none := plain(key, nil)
	if Of(key) != none || Of(key, nil) != none || Of(key, [][]byte{}...) != none || Of(key, nil, []byte{}, nil) != none {
		t.Error("Of nothing hangs on how many parts it has")
	}
	if Of(nil) != plain(nil, nil) || Of([]byte{}) != Of(nil) || Of(nil, []byte("a")) != Of([]byte{}, []byte("a")) {
		t.Error("an empty key is not as none")
	}
	if Of(key, []byte("c"), []byte("ab")) != plain(key, []byte("cab")) {
		t.Error("Of two parts is not in their order")
	}
	for _, key := range [][]byte{nil, many(32), many(64), many(100)} {
		for _, n := range []int{1, 2, 63, 64, 65, 130} {
			b := many(n)
			want := plain(key, b)
			for cut := range n + 1 {
				if Of(key, b[:cut], b[cut:]) != want || Of(key, nil, b[:cut/2], b[cut/2:cut], []byte{}, b[cut:], nil) != want {
					t.Errorf("%d bytes cut at %d, a key of %d", n, cut, len(key))
				}
			}
			if Of(key, slices.Collect(slices.Chunk(b, 1))...) != want {
				t.Errorf("%d parts of a byte, a key of %d", n, len(key))
			}
		}
	}
}

func TestEqual(t *testing.T) { // P5.2
	list := append(samples(), []byte("a"), []byte("b"), []byte("ab"), []byte("a\x00"), []byte("\x00a"))
	for _, a := range list {
		for _, b := range list {
			if got, want := Equal(a, b), string(a) == string(b); got != want {
				t.Errorf("Equal of %d and %d bytes is %v, %.40x and %.40x", len(a), len(b), got, a, b)
			}
		}
	}
	if !Equal(nil, []byte{}) || !Equal([]byte{}, nil) || !Equal(nil, nil) {
		t.Error("an empty list and nil are not the same")
	}
	right := many(40)
	for place := range right {
		for bit := range 8 {
			other := bytes.Clone(right)
			other[place] ^= 1 << bit
			if Equal(right, other) || Equal(other, right) {
				t.Errorf("bit %d at %d does not differ", bit, place)
			}
		}
		twice := bytes.Clone(right)
		twice[place] ^= 0x80
		twice[(place+1)%len(twice)] ^= 0x80
		if Equal(right, twice) {
			t.Errorf("two bits that differ, from %d on, cancel one another", place)
		}
		if Equal(right, right[:place]) || Equal(right[:place], right) {
			t.Errorf("the first %d bytes are the same as all", place)
		}
	}
}

func TestLabel(t *testing.T) { // P5.2
	k := []byte("k")
	for _, c := range []struct {
		label string
		parts [][]byte
		want  string
	}{
		{"", nil, "679f05c0f197b486e60bca04c145367ad0218b5fc1c4666e2da19d8e28ffed77"},
		{"a", [][]byte{[]byte("b")}, "89c96f36b6a095834d62dfee91afc4ab4ace9b69818ba6d5f55cc194d4e192bb"},
		{"ab", nil, "bb4bc492c83665f488f448fdd9e27a7665eff3c1ed8fcdefdec6a0f9b2ef1fe6"},
		{strings.Repeat("a", 64), [][]byte{bytes.Repeat([]byte("b"), 63)}, "7277060f4a3536fb6eb0543cd66060f40a87603a0bfc192c249e80b0685b776e"},
	} {
		if got := sha.Hex(Label(k, c.label, c.parts...)); got != c.want {
			t.Errorf("Label of %q and %q = %s, want %s", c.label, c.parts, got, c.want)
		}
	}
	for _, key := range [][]byte{nil, many(32), many(64), many(65)} {
		for _, label := range samples() {
			for _, part := range samples() {
				want := plain(key, slices.Concat(laid(label), laid(part), laid(nil), laid(part)))
				if got := Label(key, string(label), part, nil, part); got != want {
					t.Fatalf("Label of %d bytes and parts of %d: %x, want %x", len(label), len(part), got, want)
				}
			}
		}
	}
}

func TestLabelsApart(t *testing.T) { // P5.2: each part has its length, so where they are cut counts
	k, a, b, ab := []byte("k"), []byte("a"), []byte("b"), []byte("ab")
	seen := map[api.Hash]string{}
	for name, sum := range map[string]api.Hash{
		"none": Label(k, ""), "an empty part": Label(k, "", nil), "two empty parts": Label(k, "", nil, nil),
		"a": Label(k, "a"), "a and nothing": Label(k, "a", nil), "a as a part": Label(k, "", a),
		"ab": Label(k, "ab"), "a, b": Label(k, "a", b), "b, a": Label(k, "b", a), "ab as a part": Label(k, "", ab), "a and b as parts": Label(k, "", a, b),
		"a laid": Label(k, "\x01a"), "another key": Label(a, "a"),
	} {
		if other, ok := seen[sum]; ok {
			t.Errorf("Label of %s and of %s are one", name, other)
		}
		seen[sum] = name
	}
	if Label(k, "a", []byte{}) != Label(k, "a", nil) || Label(nil, "a") != Label([]byte{}, "a") || Label(k, "a", [][]byte{}...) != Label(k, "a") {
		t.Error("an empty list is not as nil")
	}
}

func TestTag(t *testing.T) { // P5.3
	k := api.Hash{7}
	if got := Tag(k, []byte("abc")); !bytes.Equal(got, hex(t, "b72f59666033a9497e1596c08141171f")) {
		t.Errorf("Tag = %x", got)
	}
	for _, key := range []api.Hash{{}, k, {31: 1}, api.Hash(many(32))} {
		for _, b := range samples() {
			want := plain(key[:], b)
			for _, got := range [][]byte{Tag(key, b), Tag(key, b[:len(b)/2], nil, b[len(b)/2:])} {
				if len(got) != api.MaxTag || !bytes.Equal(got, want[:16]) {
					t.Errorf("Tag of %d bytes = %x, want the first 16 of %x", len(b), got, want)
				}
			}
		}
		want := plain(key[:], nil)
		if !bytes.Equal(Tag(key), want[:16]) {
			t.Errorf("Tag of nothing = %x, want the first 16 of %x", Tag(key), want)
		}
	}
}

func TestSeal(t *testing.T) { // P5.3
	k := api.Hash{7}
	for _, c := range []struct{ head, body, tag string }{
		{"h", "body", "3f210ebc76425128221e3c1e07040874"},
		{"", "", "5d05e7f9910807010fd39a6c0bd1bd0a"},
		{strings.Repeat("h", 64), "body", "e5da88c2454e202980e73fbf51d2b40c"},
	} {
		want := slices.Concat([]byte(c.body), hex(t, c.tag))
		if got := Seal(k, []byte(c.head), []byte(c.body)); !bytes.Equal(got, want) {
			t.Errorf("Seal(%q, %q) = %x, want %x", c.head, c.body, got, want)
		}
	}
}

func TestSealOpen(t *testing.T) { // P5.3, P5.4
	for _, key := range []api.Hash{{}, {7}, api.Hash(many(32))} {
		for _, head := range samples() {
			for _, body := range samples() {
				sealed := Seal(key, head, body)
				if !bytes.Equal(sealed, slices.Concat(body, plainTag(key, head, body))) {
					t.Fatalf("a head of %d bytes, a body of %d: sealed %.80x", len(head), len(body), sealed)
				}
				if got, err := Open(key, head, sealed); err != api.OK || !bytes.Equal(got, body) {
					t.Fatalf("a head of %d bytes, a body of %d: opened %.80x, %d", len(head), len(body), got, int(err))
				}
			}
		}
	}
}

// refused tells whether Open answers an error and nothing else.
func refused(t *testing.T, key api.Hash, head, sealed []byte, want api.Errno) {
	t.Helper()
	if got, err := Open(key, head, sealed); len(got) != 0 || err != want {
		t.Errorf("Open(%x, %x, %x) = %x, %d, want nothing, %d", key, head, sealed, got, int(err), int(want))
	}
}

func TestOpenCut(t *testing.T) { // P5.3
	key, head := api.Hash{7}, []byte("head")
	sealed := Seal(key, head, nil)
	if len(sealed) != 16 {
		t.Fatalf("sealed nothing is %x", sealed)
	}
	for n := range 16 {
		refused(t, key, head, sealed[:n], api.ErrCut)
		refused(t, key, nil, make([]byte, n), api.ErrCut)
	}
	refused(t, key, nil, nil, api.ErrCut)
	refused(t, key, nil, make([]byte, 16), api.ErrTag)
	if got, err := Open(key, head, sealed); len(got) != 0 || err != api.OK {
		t.Errorf("16 bytes that are the tag: %x, %d", got, int(err))
	}
}

func TestOpenTag(t *testing.T) { // P5.3, P5.4
	key, head, body := api.Hash(many(32)), []byte("head"), []byte("a body of some bytes")
	sealed := Seal(key, head, body)
	for place := range sealed { // each bit of the body and of the tag counts
		for bit := range 8 {
			other := bytes.Clone(sealed)
			other[place] ^= 1 << bit
			refused(t, key, head, other, api.ErrTag)
		}
	}
	for place := range head {
		other := bytes.Clone(head)
		other[place] ^= 1
		refused(t, key, other, sealed, api.ErrTag)
		refused(t, key, head[:place], sealed, api.ErrTag)
	}
	for place := range key {
		other := key
		other[place] ^= 0x80
		refused(t, other, head, sealed, api.ErrTag)
	}
	for n := 16; n < len(sealed); n++ {
		refused(t, key, head, sealed[:n], api.ErrTag)
		refused(t, key, head, sealed[len(sealed)-n:], api.ErrTag)
	}
	refused(t, key, head, append(bytes.Clone(sealed), 0), api.ErrTag)
	refused(t, key, head, append([]byte{0}, sealed...), api.ErrTag)
	refused(t, api.Hash{}, head, sealed, api.ErrTag)
	refused(t, key, head, slices.Concat(body, Tag(key, head, body)), api.ErrTag)
}

func TestHeadAndBodyApart(t *testing.T) { // P5.3: no byte goes over from the head to the body
	key, text := api.Hash{7}, many(80)
	for cut := range len(text) {
		sealed := Seal(key, text[:cut], text[cut:])
		refused(t, key, text[:cut+1], sealed[1:], api.ErrTag)
		if cut > 0 {
			refused(t, key, nil, slices.Concat(text[:cut], sealed), api.ErrTag)
		}
	}
}

func TestAnswersAreNew(t *testing.T) {
	key, head, body := api.Hash{7}, roomy([]byte("head")), roomy([]byte("body"))
	sealed := Seal(key, head, body)
	want := bytes.Clone(sealed)
	spoil(Seal(key, head, body))
	spoil(Tag(key, head, body))
	opened, _ := Open(key, head, sealed)
	again, _ := Open(key, head, sealed)
	spoil(opened)
	if string(body) != "body" || string(head) != "head" || string(again) != "body" || !bytes.Equal(sealed, want) || !bytes.Equal(Seal(key, head, body), want) {
		t.Errorf("an answer shares memory: %q, %q, %q, %x", head, body, again, sealed)
	}
	long := roomy(Seal(key, head, nil)) // nothing in it, but room
	empty, err := Open(key, head, long)
	spoil(empty)
	if err != api.OK || !bytes.Equal(long, Seal(key, head, nil)) {
		t.Error("an empty answer shares its spare room with what was sealed")
	}
	spoil(sealed)
	if string(again) != "body" || string(body) != "body" {
		t.Error("what was opened shares memory with what was sealed")
	}
	one, other := Tag(key, body), Tag(key, body)
	spoil(one)
	if !bytes.Equal(other, Tag(key, body)) {
		t.Error("two tags share memory")
	}
}

func TestArguments(t *testing.T) { // not changed, neither the lists nor their spare room
	for _, n := range []int{0, 1, 16, 40, 63, 64, 65, 130} {
		key, head, body := roomy(many(n)), roomy(many(n/2)), roomy(many(n))
		sealed := roomy(Seal(api.Hash{7}, head, body))
		parts := append(make([][]byte, 0, 9), head, body, sealed)
		args := [][]byte{key, head, body, sealed}
		var want [][]byte
		for _, arg := range args {
			want = append(want, bytes.Clone(arg[:cap(arg)]))
		}
		Of(key, parts...)
		Label(key, "label", parts...)
		Tag(api.Hash{7}, parts...)
		Equal(body, sealed)
		Seal(api.Hash{7}, head, body)
		Open(api.Hash{7}, head, sealed)
		Open(api.Hash{8}, head, sealed)
		for i, arg := range args {
			if !bytes.Equal(arg[:cap(arg)], want[i]) {
				t.Errorf("of %d bytes, argument %d was changed: %x, want %x", n, i, arg[:cap(arg)], want[i])
			}
		}
		for i, part := range parts[:cap(parts)] {
			if i < 3 && (!bytes.Equal(part, args[i+1]) || len(part) > 0 && &part[0] != &args[i+1][0]) || i >= 3 && part != nil {
				t.Errorf("of %d bytes, the list of parts was changed at %d: %x", n, i, part)
			}
		}
	}
}

func FuzzMac(f *testing.F) { // P5.1 to P5.4
	f.Add([]byte("key"), []byte("head"), []byte("body"), 2)
	f.Add(many(65), many(64), many(100), 16)
	f.Fuzz(func(t *testing.T, key, head, body []byte, cut int) {
		cut = int(uint(cut) % uint(len(body)+1))
		if Of(key, body[:cut], body[cut:]) != plain(key, body) || Label(key, string(head), body) != plain(key, append(laid(head), laid(body)...)) {
			t.Fatalf("%x, %x, %x", key, head, body)
		}
		k := sha.Of(key)
		sealed := Seal(k, head, body)
		if got, err := Open(k, head, sealed); err != api.OK || !Equal(got, body) || !bytes.Equal(got, body) {
			t.Fatalf("Open(%x, %x) = %x, %d", head, sealed, got, int(err))
		}
		sealed[cut] ^= 1
		if got, err := Open(k, head, sealed); err != api.ErrTag || got != nil {
			t.Fatalf("Open(%x, %x) = %x, %d, want ErrTag", head, sealed, got, int(err))
		}
		if got, err := Open(k, head, body); len(body) < 16 && err != api.ErrCut || err != api.OK && got != nil {
			t.Fatalf("Open(%x, %x) = %x, %d", head, body, got, int(err))
		}
		if Equal(head, body) != bytes.Equal(head, body) {
			t.Fatalf("Equal(%x, %x)", head, body)
		}
	})
}
