package match

import (
	"bytes"
	"fmt"
	"math"
	"math/rand"
	"strings"
	"testing"
	"time"

	"sumpter/api"
	"sumpter/block"
	"sumpter/roll"
)

// data is an operation of bytes.
func data(s string) api.Op { return api.Op{Data: []byte(s)} }

// take is a copy.
func take(at, n int) api.Op { return api.Op{Copy: true, At: at, N: n} }

// index makes an index of a file's blocks, or stops the test.
func index(t *testing.T, old string, size int) *block.Index {
	t.Helper()
	l, err := block.Sign([]byte(old), size)
	if err != api.OK {
		t.Fatal("Sign", err)
	}
	return indexOf(t, size, len(old), l)
}

// indexOf makes an index of sums, or stops the test.
func indexOf(t *testing.T, size, n int, l []api.Sig) *block.Index {
	t.Helper()
	x, err := block.New(size, n, l)
	if err != api.OK {
		t.Fatal("New", err)
	}
	return x
}

// show tells operations as a text, by which they are held against each other here.
func show(l []api.Op) string {
	var s strings.Builder
	for _, o := range l {
		fmt.Fprintf(&s, "(%v %d %d %q)", o.Copy, o.At, o.N, o.Data)
	}
	return s.String()
}

// piece is what a place of b becomes: a block of the old file, or a byte.
type piece struct {
	copied bool
	at     int
	text   string
}

// plainPieces goes over b by the words of P12.1, with the old file itself instead of sums.
func plainPieces(old string, size int, b string) []piece {
	var l []piece
	for len(b) > 0 {
		at := -1
		for i := 0; i+size <= len(old) && at < 0; i += size {
			if strings.HasPrefix(b, old[i:i+size]) {
				at = i
			}
		}
		if at >= 0 {
			l = append(l, piece{true, at, b[:size]})
			b = b[size:]
			continue
		}
		l = append(l, piece{false, 0, b[:1]})
		b = b[1:]
	}
	return l
}

// plainJoin makes pieces that belong together one operation.
func plainJoin(pieces []piece) []api.Op {
	var l []api.Op
	for i, p := range pieces {
		joined := i > 0 && pieces[i-1].copied == p.copied
		switch {
		case !p.copied && joined:
			l[len(l)-1].Data = append(l[len(l)-1].Data, p.text...)
		case !p.copied:
			l = append(l, data(p.text))
		case joined && pieces[i-1].at+len(p.text) == p.at:
			l[len(l)-1].N += len(p.text)
		default:
			l = append(l, take(p.at, len(p.text)))
		}
	}
	return l
}

// plainSearch is P12.1 word by word.
func plainSearch(old string, size int, b string) []api.Op {
	l := plainJoin(plainPieces(old, size, b))
	if len(l) > 4096 {
		return []api.Op{data(b)}
	}
	return l
}

// checkMade holds operations against P12.3: what they make of the old file is b, and they are as the chapter's words say.
func checkMade(t *testing.T, old string, size int, b string, l []api.Op) {
	t.Helper()
	var made strings.Builder
	for i, o := range l {
		switch {
		case o.Copy && (o.Data != nil || o.At < 0 || o.N < size || o.At%size != 0 || o.N%size != 0 || o.At+o.N > len(old)):
			t.Fatalf("a copy of %d bytes in blocks of %d: %s", len(old), size, show(l[i:i+1]))
		case o.Copy:
			made.WriteString(old[o.At : o.At+o.N])
		case o.At != 0 || o.N != 0 || len(o.Data) == 0 || i > 0 && !l[i-1].Copy:
			t.Fatalf("bytes: %s", show(l[i:i+1]))
		default:
			made.Write(o.Data)
		}
	}
	if made.String() != b {
		t.Fatalf("of %.60q in blocks of %d: %.60q, want %.60q", old, size, made.String(), b)
	}
	if len(l) > 4096 || Copied(l)+Literal(l) != len(b) {
		t.Fatalf("%d operations, %d and %d bytes of %d", len(l), Copied(l), Literal(l), len(b))
	}
}

// checkSearch holds Search against the words, and what it makes against b.
func checkSearch(t *testing.T, old string, size int, b string) {
	t.Helper()
	got := Search(index(t, old, size), []byte(b))
	if want := plainSearch(old, size, b); show(got) != show(want) {
		t.Fatalf("%.60q in blocks of %d, %.60q: %.200s, want %.200s", old, size, b, show(got), show(want))
	}
	checkMade(t, old, size, b, got)
}

// text makes n bytes by chance, of so many letters.
func text(r *rand.Rand, n, letters int) string {
	b := make([]byte, n)
	for i := range b {
		b[i] = byte('a' + r.Intn(letters))
	}
	return string(b)
}

// P12.1: the chapter's example first.
func TestSearch(t *testing.T) {
	for _, c := range []struct {
		old  string
		size int
		b    string
		want []api.Op
	}{
		{"abcdef", 3, "xxabcdefyabc", []api.Op{data("xx"), take(0, 6), data("y"), take(0, 3)}},
		{"abcdef", 3, "abcdef", []api.Op{take(0, 6)}},
		{"abcdef", 3, "defabc", []api.Op{take(3, 3), take(0, 3)}},
		{"abcdef", 3, "abcabc", []api.Op{take(0, 3), take(0, 3)}},
		{"abcdefghi", 3, "abcghi", []api.Op{take(0, 3), take(6, 3)}},
		{"abcdefghi", 3, "defghiabcdef", []api.Op{take(3, 6), take(0, 6)}},
		{"abcdefghi", 3, "abcxdef", []api.Op{take(0, 3), data("x"), take(3, 3)}}, // something between: two copies
		{"abcdef", 3, "ababc", []api.Op{data("ab"), take(0, 3)}},
		{"abcdef", 3, "abcab", []api.Op{take(0, 3), data("ab")}},
		{"abcdef", 3, "bcd", []api.Op{data("bcd")}}, // the old file has it, but no block is it
		{"abcdefg", 3, "g", []api.Op{data("g")}},
		{"abcdefgh", 3, "ghabc", []api.Op{data("gh"), take(0, 3)}}, // what is left behind the blocks is none
		{"abcdefgh", 3, "abcdefgh", []api.Op{take(0, 6), data("gh")}},
		{"abcdef", 3, "", nil},
		{"abcdef", 3, "ab", []api.Op{data("ab")}},
		{"abcdef", 3, "xyz", []api.Op{data("xyz")}},
		{"", 3, "abc", []api.Op{data("abc")}},
		{"", 1, "", nil},
		{"ab", 3, "ababab", []api.Op{data("ababab")}},
		{"aaaa", 2, "aaaaa", []api.Op{take(0, 2), take(0, 2), data("a")}}, // the first block with these sums, each time
		{"aabbaacc", 2, "aabbaacc", []api.Op{take(0, 4), take(0, 2), take(6, 2)}},
		{"aabcaa", 2, "caabc", []api.Op{data("c"), take(0, 4)}},
		{"abab", 2, "aabab", []api.Op{data("a"), take(0, 2), take(0, 2)}},
		{"xaax", 2, "xaaxa", []api.Op{take(0, 4), data("a")}},
		{"abba", 2, "abbabb", []api.Op{take(0, 4), data("bb")}}, // behind a copy the next block is whole: no place within the copy is looked at
		{"abc", 1, "cba", []api.Op{take(2, 1), take(1, 1), take(0, 1)}},
		{"abc", 1, "abcabx", []api.Op{take(0, 3), take(0, 2), data("x")}},
		{"\x00\x00\x00", 3, "\x00\x00\x00\x00\x00\x00\x00", []api.Op{take(0, 3), take(0, 3), data("\x00")}},
		{"\xff\xfe", 2, "\xff\xff\xfe", []api.Op{data("\xff"), take(0, 2)}},
	} {
		if got := Search(index(t, c.old, c.size), []byte(c.b)); show(got) != show(c.want) {
			t.Errorf("%q in blocks of %d, %q: %s, want %s", c.old, c.size, c.b, show(got), show(c.want))
		}
		checkSearch(t, c.old, c.size, c.b)
	}
}

// P12.1: the leftmost place wins, whatever a later one would bring.
func TestLeftFirst(t *testing.T) {
	got := Search(index(t, "abcd"+"cdef"+"efgh", 4), []byte("abcdefgh"))
	if want := []api.Op{take(0, 4), take(8, 4)}; show(got) != show(want) {
		t.Error(show(got))
	}
	got = Search(index(t, "abcd"+"bcde"+"cdef"+"defg", 4), []byte("abcdefg"))
	if want := []api.Op{take(0, 4), data("efg")}; show(got) != show(want) {
		t.Error(show(got))
	}
}

// P12.1, P12.3: texts of few letters, so that blocks come again and lie across each other.
func TestSearchByWords(t *testing.T) {
	r := rand.New(rand.NewSource(1))
	for range 20000 {
		letters := 1 + r.Intn(3)
		checkSearch(t, text(r, r.Intn(24), letters), 1+r.Intn(5), text(r, r.Intn(30), letters))
	}
}

// P12.1, P12.3: all short texts of two letters.
func TestAllShort(t *testing.T) {
	var all []string
	for n := range 8 {
		for v := range 1 << n {
			all = append(all, strings.NewReplacer("0", "a", "1", "b").Replace(fmt.Sprintf("%b", 1<<n|v))[1:])
		}
	}
	for _, old := range []string{"", "a", "ab", "abab", "aabb", "abba", "aaaaab", "abbaab"} {
		for size := 1; size <= 4; size++ {
			for _, b := range all {
				checkSearch(t, old, size, b)
			}
		}
	}
}

// edited makes a new file of an old one: bytes come in, go out, are changed, and parts change their places.
func edited(r *rand.Rand, old string) string {
	b := old
	for range r.Intn(6) {
		i, j := r.Intn(len(b)+1), r.Intn(len(b)+1)
		i, j = min(i, j), max(i, j)
		switch r.Intn(5) {
		case 0:
			b = b[:i] + text(r, r.Intn(20), 26) + b[i:]
		case 1:
			b = b[:i] + b[min(i+r.Intn(50), len(b)):]
		case 2:
			b = b[:i] + text(r, min(j-i, 5), 26) + b[min(i+5, j):]
		case 3:
			b = b[i:] + b[:i]
		case 4:
			b = b[:j] + b[i:]
		}
	}
	return b
}

// P12.1, P12.3: a new file of an old one.
func TestEdited(t *testing.T) {
	r := rand.New(rand.NewSource(2))
	for range 300 {
		old := text(r, r.Intn(2000), 1+r.Intn(26))
		checkSearch(t, old, 1+r.Intn(100), edited(r, old))
	}
}

// P12.1: lengths about the size, at both ends of what a size may be.
func TestSizes(t *testing.T) {
	r := rand.New(rand.NewSource(3))
	for _, size := range []int{1, 2, 15, 16, 17, 255, 256, 257, 1000, 4095, 4096} {
		old := text(r, 3*size+size/2, 26)
		for _, b := range []string{
			old, old[1:], old[:len(old)-1], old[:size], old[:size-1], old[1:size], "!" + old[:size], old[:size] + "!",
			"!" + old[size:2*size] + "!", old[size:] + old[:size], old[:2*size] + old[3*size:], old[:2*size] + old[:2*size],
			strings.Repeat("!", size), strings.Repeat("!", size-1), strings.Repeat("!", size+1),
		} {
			checkSearch(t, old, size, b)
		}
	}
}

// P12.1: where there is no index, all is bytes.
func TestNilIndex(t *testing.T) {
	for _, b := range []string{"", "q", "abcabc", strings.Repeat("ab", 50000)} {
		got := Search(nil, []byte(b))
		if show(got) != show(Whole([]byte(b))) || b != "" && show(got) != show([]api.Op{data(b)}) || b == "" && got != nil {
			t.Errorf("of %d bytes: %.100s", len(b), show(got))
		}
	}
	if got := Search(nil, nil); got != nil {
		t.Error(show(got))
	}
}

// P12.1: an index without blocks.
func TestNoBlocks(t *testing.T) {
	for _, c := range []struct{ size, n int }{{1, 0}, {4096, 0}, {4096, 4095}, {2, 1}} {
		x := indexOf(t, c.size, c.n, nil)
		for _, b := range []string{"", "a", "ab", strings.Repeat("a", 5000)} {
			if got := Search(x, []byte(b)); show(got) != show(Whole([]byte(b))) {
				t.Errorf("%v, of %d bytes: %.100s", c, len(b), show(got))
			}
		}
	}
}

// P12.1: up to 4096 operations stand; with one more, all is bytes. The last of them may be a copy or bytes, and so may the first.
func TestMaxOps(t *testing.T) {
	for _, c := range []struct {
		what string
		b    string
		ops  int
	}{
		{"copies", strings.Repeat("ca", 2048), 4096},
		{"copies, the last one longer", strings.Repeat("ca", 2048) + "b", 4096},
		{"copies, one more", strings.Repeat("ca", 2048) + "c", 4097},
		{"copies, and bytes", strings.Repeat("ca", 2047) + "c!", 4096},
		{"copies, and bytes, one more", strings.Repeat("ca", 2048) + "!", 4097},
		{"copies, and more bytes, one more", strings.Repeat("ca", 2048) + strings.Repeat("!", 300), 4097},
		{"by turns", strings.Repeat("a!", 2048), 4096},
		{"by turns, one more", strings.Repeat("a!", 2048) + "a", 4097},
		{"by turns, the last one longer", strings.Repeat("a!", 2048) + "!!", 4096},
		{"by turns, bytes first", strings.Repeat("!a", 2048), 4096},
		{"by turns, bytes first, one more", strings.Repeat("!a", 2048) + "!", 4097},
		{"by turns, bytes first, the last one longer", strings.Repeat("!a", 2048) + "bc", 4096},
		{"by turns, bytes first, a copy more", strings.Repeat("!a", 2048) + "bca", 4097},
		{"joined copies", strings.Repeat("abc", 4096), 4096},
		{"joined copies, one more", strings.Repeat("abc", 4096) + "a", 4097},
		{"a few more, and then one long copy", strings.Repeat("a!", 2049) + "abc", 4099},
		{"far more", strings.Repeat("ca", 30000), 60000},
	} {
		plain := plainJoin(plainPieces("abc", 1, c.b))
		if len(plain) != c.ops {
			t.Fatalf("%s: %d operations, told %d", c.what, len(plain), c.ops)
		}
		want := plain
		if c.ops > 4096 {
			want = []api.Op{data(c.b)}
		}
		got := Search(index(t, "abc", 1), []byte(c.b))
		if show(got) != show(want) {
			t.Errorf("%s: %d operations, want %d", c.what, len(got), len(want))
		}
		checkMade(t, "abc", 1, c.b, got)
	}
}

// P12.1: the bound is on the operations, not on the blocks, nor on the bytes.
func TestManyBlocks(t *testing.T) {
	r := rand.New(rand.NewSource(4))
	old := text(r, 65536, 26)
	checkSearch(t, old, 16, old)
	x := index(t, "ab", 1)
	if got := Search(x, []byte(strings.Repeat("!", 200000)+"ab")); show(got) != show([]api.Op{data(strings.Repeat("!", 200000)), take(0, 2)}) {
		t.Errorf("%d operations", len(got))
	}
}

// twins are two texts with one weak sum.
const (
	twin  = "\x02\x00\x02"
	other = "\x01\x02\x01"
)

// P12.1: a weak sum alone is no match, neither at the first place nor behind one.
func TestSameWeak(t *testing.T) {
	if twin == other || roll.Sum([]byte(twin)) != roll.Sum([]byte(other)) {
		t.Fatal("no twins")
	}
	for _, b := range []string{twin, other, twin + other, other + twin, "!" + twin + "!", twin + twin[1:], "!!" + twin + other + "!"} {
		checkSearch(t, other, 3, b)
		checkSearch(t, other+twin, 3, b)
		checkSearch(t, twin+"abc"+other, 3, b)
	}
	got := Search(index(t, other, 3), []byte(twin+other))
	if show(got) != show([]api.Op{data(twin), take(0, 3)}) {
		t.Error(show(got))
	}
}

// P12.1: copies are told by the sums alone, whichever file they are of; so P12.3 holds as far as the sums go.
func TestToldSums(t *testing.T) {
	l, _ := block.Sign([]byte("abcdefghi"), 3)
	for _, c := range []struct {
		told []api.Sig
		want []api.Op
	}{
		{[]api.Sig{l[1], l[0]}, []api.Op{take(3, 3), take(0, 3)}},
		{[]api.Sig{l[2], l[0], l[1]}, []api.Op{take(3, 6)}},
		{[]api.Sig{l[2], l[2], l[0], l[0], l[1]}, []api.Op{take(6, 3), take(12, 3)}},
		{[]api.Sig{{Weak: l[0].Weak, Strong: l[1].Strong}, {Weak: l[1].Weak, Strong: l[0].Strong}}, []api.Op{data("abcdef")}},
		{[]api.Sig{{Weak: l[0].Weak}, l[1]}, []api.Op{data("abc"), take(3, 3)}},
	} {
		x := indexOf(t, 3, 3*len(c.told), c.told)
		if got := Search(x, []byte("abcdef")); show(got) != show(c.want) {
			t.Error(show(got), show(c.want))
		}
	}
}

// P12.2: Whole.
func TestWhole(t *testing.T) {
	if Whole(nil) != nil || len(Whole([]byte{})) != 0 {
		t.Error("of none")
	}
	for _, b := range []string{"a", "\x00", "abc", strings.Repeat("xyz", 30000)} {
		if got := Whole([]byte(b)); show(got) != show([]api.Op{data(b)}) {
			t.Errorf("of %d bytes: %.100s", len(b), show(got))
		}
	}
}

// P12.2: Copied and Literal.
func TestCounts(t *testing.T) {
	for _, c := range []struct {
		l               []api.Op
		copied, literal int
	}{
		{nil, 0, 0},
		{[]api.Op{}, 0, 0},
		{[]api.Op{data("abc")}, 0, 3},
		{[]api.Op{take(7, 4)}, 4, 0},
		{[]api.Op{take(0, 4), take(0, 4), take(4, 1)}, 9, 0},
		{[]api.Op{data("a"), data("bcd")}, 0, 4},
		{[]api.Op{data("xx"), take(0, 6), data("y"), take(0, 3)}, 9, 3},
		{[]api.Op{{}, {Copy: true}}, 0, 0},
		{[]api.Op{{Copy: true, N: 2, Data: []byte("abc")}, {At: 9, N: 5, Data: []byte("d")}}, 2, 1},
		{[]api.Op{take(math.MaxInt, 1), take(math.MinInt, 2)}, 3, 0},
		{[]api.Op{take(0, math.MaxInt), data("a")}, math.MaxInt, 1},
	} {
		if n, m := Copied(c.l), Literal(c.l); n != c.copied || m != c.literal {
			t.Errorf("%s: %d and %d, want %d and %d", show(c.l), n, m, c.copied, c.literal)
		}
	}
	Copied([]api.Op{take(0, math.MaxInt), take(0, math.MaxInt), take(0, math.MinInt), take(-1, -1)}) // no panic
}

// P12.2: Same, of each two of these.
func TestSame(t *testing.T) {
	lists := [][]api.Op{
		nil,
		{{}},
		{{}, {}},
		{data("a")},
		{data("b")},
		{data("ab")},
		{data("a"), data("b")},
		{data("b"), data("a")},
		{take(0, 1)},
		{take(1, 1)},
		{take(0, 2)},
		{take(1, 0)},
		{take(0, 1), take(1, 1)},
		{take(1, 1), take(0, 1)},
		{take(0, 1), data("a")},
		{data("a"), take(0, 1)},
		{{At: 0, N: 1}},
		{{At: 1}},
		{{Copy: true}},
		{{Copy: true, Data: []byte("a")}},
		{{Copy: true, At: 0, N: 1, Data: []byte("a")}},
		{{At: 1, Data: []byte("a")}},
		{{N: 1, Data: []byte("a")}},
		{data("\x00")},
	}
	for i, a := range lists {
		for j, b := range lists {
			if got := Same(a, copyOf(b)); got != (i == j) {
				t.Errorf("%s and %s: %v", show(a), show(b), got)
			}
		}
	}
	if !Same(nil, []api.Op{}) || !Same([]api.Op{}, nil) {
		t.Error("an empty list and nil are not the same")
	}
	empty, none := []api.Op{{Copy: true, N: 1, Data: []byte{}}}, []api.Op{{Copy: true, N: 1}}
	if !Same(empty, none) || !Same(none, empty) || !Same([]api.Op{{Data: []byte{}}}, []api.Op{{}}) {
		t.Error("empty Data and nil are not the same")
	}
}

// copyOf tells operations in other memory.
func copyOf(l []api.Op) []api.Op {
	var out []api.Op
	for _, o := range l {
		o.Data = bytes.Clone(o.Data)
		out = append(out, o)
	}
	return out
}

// spoil changes all of a list's memory, with its spare room.
func spoil(b []byte) {
	b = b[:cap(b)]
	for i := range b {
		b[i] ^= 0xff
	}
}

// Rule 3: arguments stay as they are, with the room behind them; answers are memory of their own.
func TestOwnMemory(t *testing.T) {
	x := index(t, "abcdef", 3)
	const whole = "xxabcyyabcdefzz"
	want := []api.Op{data("xx"), take(0, 3), data("yy"), take(0, 6), data("zz")}
	room := []byte(whole + "abcdef")
	b := room[:len(whole)]
	l, all, none := Search(x, b), Whole(b), Search(nil, b)
	if string(room) != whole+"abcdef" {
		t.Fatal("an argument was changed")
	}
	for i := range l {
		spoil(l[i].Data)
		for j, o := range l {
			if j > i && string(o.Data) != string(want[j].Data) {
				t.Error("two lists of an answer share memory", i, j)
			}
		}
	}
	spoil(all[0].Data)
	spoil(none[0].Data)
	if string(room) != whole+"abcdef" {
		t.Fatal("an answer is its argument's memory")
	}
	l, all = Search(x, b), Whole(b)
	kept := show(l)
	spoil(room)
	if show(l) != kept || kept != show(want) || show(all) != show([]api.Op{data(whole)}) {
		t.Error("an argument is kept", show(l), show(all))
	}
	Copied(l)
	Literal(l)
	Same(l, want)
	if show(l) != kept {
		t.Error("operations were changed")
	}
}

// Rule 3: of an answer that is all bytes, as there would be too many operations.
func TestOwnMemoryOfMany(t *testing.T) {
	whole := strings.Repeat("ca", 3000)
	b := []byte(whole)
	l := Search(index(t, "abc", 1), b)
	spoil(b)
	if show(l) != show([]api.Op{data(whole)}) {
		t.Error("an argument is kept")
	}
}

// Rule 4: an index answers the same however often it was searched with, whatever was searched for.
func TestAgain(t *testing.T) {
	r := rand.New(rand.NewSource(5))
	old := text(r, 300, 4)
	x := index(t, old, 5)
	for range 200 {
		b := edited(r, old)
		first := show(Search(x, []byte(b)))
		Search(x, []byte(edited(r, old)))
		if show(Search(x, []byte(b))) != first || show(Search(index(t, old, 5), []byte(b))) != first {
			t.Fatalf("%q", b)
		}
	}
}

// The window rolls: what summed each place anew would take minutes here.
func TestFewSteps(t *testing.T) {
	const patience = 60 * time.Second
	r := rand.New(rand.NewSource(6))
	old := text(r, 65536, 26)
	b := text(r, 1<<22, 26)
	began := time.Now()
	got := Search(index(t, old, 4096), []byte(b+old))
	if want := []api.Op{data(b), take(0, 65536)}; show(got) != show(want) {
		t.Errorf("%d operations", len(got))
	}
	if took := time.Since(began); took > patience {
		t.Errorf("it took %v", took)
	}
}

func FuzzSearch(f *testing.F) { // P12.1, P12.3
	f.Add("abcdef", 3, "xxabcdefyabc")
	f.Add("aaaa", 2, "aaaaa")
	f.Add(other+twin, 3, twin+other)
	f.Add("", 1, "")
	f.Fuzz(func(t *testing.T, old string, size int, b string) {
		if size < 1 || size > 64 || len(old) > 2000 || len(b) > 20000 {
			t.Skip()
		}
		checkSearch(t, old, size, b)
	})
}
