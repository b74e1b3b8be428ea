package manifest

import (
	"bytes"
	"fmt"
	"math"
	"math/rand"
	"reflect"
	"slices"
	"strings"
	"testing"

	"sumpter/api"
	"sumpter/sha"
	"sumpter/tree"
)

const abcSum = "ba7816bf8f01cfea414140de5dae2223b00361a396177a9cb410ff61f20015ad"

// sumOf makes a sum whose bytes are all alike.
func sumOf(b byte) api.Hash {
	var x api.Hash
	for i := range x {
		x[i] = b
	}
	return x
}

// sumAt makes a sum of noughts with a 1 at a place.
func sumAt(at int) api.Hash {
	var x api.Hash
	x[at] = 1
	return x
}

// file makes a file's item.
func file(p string, size int, sum api.Hash) api.Item {
	return api.Item{Path: p, Size: size, Sum: sum}
}

// dir makes a directory's item.
func dir(p string) api.Item {
	return api.Item{Path: p, Dir: true}
}

// items makes a list.
func items(l ...api.Item) []api.Item {
	return l
}

// flat makes n files beside one another.
func flat(n int) []api.Item {
	var l []api.Item
	for i := range n {
		l = append(l, file(fmt.Sprintf("f%03d", i), i, sumOf(byte(i))))
	}
	return l
}

// deep makes directories, one in the other, and a file in the last, whose path has n bytes (from 40 to 128).
func deep(n int) []api.Item {
	var l []api.Item
	p := ""
	for len(p)+33 < n {
		p += strings.Repeat("d", 20)
		l = append(l, dir(p))
		p += "/"
	}
	return append(l, file(p+strings.Repeat("f", n-len(p)), 9, sumOf(7)))
}

// num lays a number by the words of chapter 1, in the least width.
func num(n int) string {
	switch {
	case n < 1<<6:
		return string([]byte{byte(n)})
	case n < 1<<14:
		return string([]byte{0x40 | byte(n>>8), byte(n)})
	}
	return wide(n)
}

// wide lays a number below 2^30 in four bytes, whether it needs them or not.
func wide(n int) string {
	return string([]byte{0x80 | byte(n>>24), byte(n >> 16), byte(n >> 8), byte(n)})
}

// plainItem lays an item by the words of P10.3.
func plainItem(x api.Item) string {
	if x.Dir {
		return num(len(x.Path)) + x.Path + "\x01"
	}
	return num(len(x.Path)) + x.Path + "\x00" + num(x.Size) + string(x.Sum[:])
}

// plainPut lays items by the words of P10.3.
func plainPut(l []api.Item) string {
	s := num(len(l))
	for _, x := range l {
		s += plainItem(x)
	}
	return s
}

// plainStand tells stand-ins by the chapter's word.
func plainStand(l []api.Item) []api.Entry {
	var made []api.Entry
	for _, x := range l {
		var data []byte
		if !x.Dir {
			data = []byte(string(x.Sum[:]))
		}
		made = append(made, api.Entry{Path: x.Path, Dir: x.Dir, Data: data})
	}
	return made
}

// plainCheck asks in the order of P10.2, each thing by itself, of all items.
func plainCheck(l []api.Item) api.Errno {
	if err := tree.Check(plainStand(l)); err != api.OK {
		return err
	}
	for _, x := range l {
		if x.Size < 0 || x.Size > 65536 {
			return api.ErrRange
		}
	}
	for _, x := range l {
		if x.Dir && (x.Size != 0 || sha.Hex(x.Sum) != strings.Repeat("0", 64)) {
			return api.ErrKind
		}
	}
	return api.OK
}

// plainNum takes a number off by hand; false, if there is none in its least width.
func plainNum(s string) (int, string, bool) {
	if s == "" {
		return 0, "", false
	}
	width := []int{1, 2, 4, 8}[s[0]>>6]
	if len(s) < width || width == 8 { // no number of a manifest needs eight bytes
		return 0, "", false
	}
	n := int(s[0] & 0x3f)
	for i := 1; i < width; i++ {
		n = n<<8 + int(s[i])
	}
	return n, s[width:], num(n) == s[:width]
}

// plainGet reads by hand, step by step, and says no at the first thing that is not as Put lays it.
func plainGet(s string) ([]api.Item, bool) {
	n, s, ok := plainNum(s)
	if !ok || n > 64 {
		return nil, false
	}
	var l []api.Item
	for range n {
		var x api.Item
		var size int
		size, s, ok = plainNum(s)
		if !ok || len(s) < size+1 {
			return nil, false
		}
		x.Path, s = s[:size], s[size:]
		kind := s[0]
		s = s[1:]
		switch kind {
		case 1:
			x.Dir = true
		case 0:
			x.Size, s, ok = plainNum(s)
			if !ok || len(s) < 32 {
				return nil, false
			}
			x.Sum = api.Hash([]byte(s[:32]))
			s = s[32:]
		default:
			return nil, false
		}
		l = append(l, x)
	}
	return l, s == "" && plainCheck(l) == api.OK
}

// holdGet holds Get of some bytes against the plain form.
func holdGet(t *testing.T, s string) bool {
	t.Helper()
	want, ok := plainGet(s)
	b := []byte(s)
	got, err := Get(b)
	if string(b) != s {
		t.Fatalf("Get changed %x to %x", s, b)
	}
	if !ok {
		if err != api.ErrForm || len(got) != 0 {
			t.Fatalf("Get(%x) = %v, %d, want ErrForm", s, got, int(err))
		}
		return false
	}
	if err != api.OK || fmt.Sprint(got) != fmt.Sprint(want) {
		t.Fatalf("Get(%x) = %v, %d, want %v", s, got, int(err), want)
	}
	if again, err := Put(got); err != api.OK || string(again) != s { // P10.5
		t.Fatalf("Get(%x), put again: %x, %d", s, again, int(err))
	}
	return true
}

// holdPut holds Check, Put, and Get of what was put, against the plain forms.
func holdPut(t *testing.T, l []api.Item) api.Errno {
	t.Helper()
	before := slices.Clone(l)
	want := plainCheck(l)
	if got := Check(l); got != want {
		t.Fatalf("Check(%v) = %d, want %d", l, int(got), int(want))
	}
	b, err := Put(l)
	if err != want || want != api.OK && len(b) != 0 {
		t.Fatalf("Put(%v) = %x, %d, want %d", l, b, int(err), int(want))
	}
	if !reflect.DeepEqual(l, before) {
		t.Fatalf("Check or Put changed %v to %v", before, l)
	}
	if want != api.OK {
		return want
	}
	if string(b) != plainPut(l) {
		t.Fatalf("Put(%v) = %x, want %x", l, b, plainPut(l))
	}
	got, err := Get(b)
	if err != api.OK || fmt.Sprint(got) != fmt.Sprint(l) || !Same(got, l) { // P10.5
		t.Fatalf("Get of what was put of %v = %v, %d", l, got, int(err))
	}
	return want
}

func TestExample(t *testing.T) { // the chapter's example 1
	l, err := Make([]api.Entry{{Path: "a", Dir: true}, {Path: "a/b", Data: []byte("abc")}})
	if err != api.OK || len(l) != 2 {
		t.Fatalf("Make = %v, %d", l, int(err))
	}
	if l[0] != (api.Item{Path: "a", Dir: true}) {
		t.Errorf("the directory's item is %v", l[0])
	}
	if l[1].Path != "a/b" || l[1].Dir || l[1].Size != 3 || sha.Hex(l[1].Sum) != abcSum {
		t.Errorf("the file's item is %v", l[1])
	}
	b, err := Put(l)
	if err != api.OK || fmt.Sprintf("%x", b) != "02"+"016101"+"03612f620003"+abcSum {
		t.Errorf("Put = %x, %d", b, int(err))
	}
	got, err := Get(b)
	if err != api.OK || !Same(got, l) {
		t.Errorf("Get = %v, %d", got, int(err))
	}
}

func TestMake(t *testing.T) { // P10.1
	full := bytes.Repeat([]byte("x"), api.MaxFile)
	l, err := Make([]api.Entry{
		{Path: "a", Dir: true, Data: []byte{}}, {Path: "a/b", Dir: true}, {Path: "a/b/c", Data: full},
		{Path: "a/d"}, {Path: "b", Data: []byte{}}, {Path: "c", Data: []byte("abc")},
	})
	want := items(dir("a"), dir("a/b"), file("a/b/c", 65536, sha.Of(full)), file("a/d", 0, sha.Of()), file("b", 0, sha.Of()), file("c", 3, sha.Of([]byte("abc"))))
	if err != api.OK || fmt.Sprint(l) != fmt.Sprint(want) {
		t.Errorf("Make = %v, %d, want %v", l, int(err), want)
	}
	if sha.Hex(l[3].Sum) != "e3b0c44298fc1c149afbf4c8996fb92427ae41e4649b934ca495991b7852b855" {
		t.Errorf("an empty file's sum is %s", sha.Hex(l[3].Sum))
	}
	for _, none := range [][]api.Entry{nil, {}} {
		if l, err := Make(none); len(l) != 0 || err != api.OK {
			t.Errorf("Make of nothing = %v, %d", l, int(err))
		}
	}
}

func TestMakeRefuses(t *testing.T) { // P10.1: tree.Check's error, and nothing beside it
	var many []api.Entry
	for i := range 65 {
		many = append(many, api.Entry{Path: fmt.Sprintf("f%02d", i)})
	}
	if l, err := Make(many[:64]); err != api.OK || len(l) != 64 {
		t.Errorf("Make of 64 = %d items, %d", len(l), int(err))
	}
	for _, c := range []struct {
		l    []api.Entry
		want api.Errno
	}{
		{many, api.ErrLong},
		{[]api.Entry{{}}, api.ErrName}, {[]api.Entry{{Path: "a"}, {Path: "a//b"}}, api.ErrName},
		{[]api.Entry{{Path: ".sumpter"}}, api.ErrName}, {[]api.Entry{{Path: strings.Repeat("a", 129)}}, api.ErrLong},
		{[]api.Entry{{Path: "a", Data: make([]byte, 65537)}}, api.ErrLong},
		{[]api.Entry{{Path: "a", Dir: true, Data: []byte("x")}}, api.ErrKind},
		{[]api.Entry{{Path: "b"}, {Path: "a"}}, api.ErrThere}, {[]api.Entry{{Path: "a"}, {Path: "a"}}, api.ErrThere},
		{[]api.Entry{{Path: "a/b"}}, api.ErrNone}, {[]api.Entry{{Path: "a"}, {Path: "a/b"}}, api.ErrKind},
	} {
		if l, err := Make(c.l); err != c.want || err != tree.Check(c.l) || l != nil {
			t.Errorf("Make of %d entries = %v, %d, want %d", len(c.l), l, int(err), int(c.want))
		}
	}
}

func TestCheckTakes(t *testing.T) { // P10.2
	for _, l := range [][]api.Item{
		nil, {}, items(dir("a")), items(file("a", 0, api.Hash{})), items(file("a", 0, sumOf(255))),
		items(file("a", 1, api.Hash{})), items(file("a", 65536, sumAt(0))), items(dir("a"), file("a/b", 65535, sumAt(31)), dir("c")),
		flat(64), deep(128),
	} {
		if got := holdPut(t, l); got != api.OK {
			t.Errorf("Check(%v) = %d", l, int(got))
		}
	}
}

func TestCheckRefuses(t *testing.T) { // P10.2
	ok := file("a", 3, sumOf(1))
	for _, c := range []struct {
		l    []api.Item
		want api.Errno
	}{
		{flat(65), api.ErrLong}, {items(file("", 0, api.Hash{})), api.ErrName}, {items(dir("")), api.ErrName}, {items(ok, file("b/", 0, api.Hash{})), api.ErrName},
		{items(dir(".sumpter")), api.ErrName}, {items(file(".sumpter.x", 1, api.Hash{})), api.ErrName}, {items(file(strings.Repeat("a", 129), 1, api.Hash{})), api.ErrLong},
		{items(ok, ok), api.ErrThere}, {items(file("b", 0, api.Hash{}), ok), api.ErrThere}, {items(ok, dir("a")), api.ErrThere},
		{items(file("a/b", 0, api.Hash{})), api.ErrNone}, {items(ok, file("a/b", 0, api.Hash{})), api.ErrKind}, {items(ok, dir("a/b")), api.ErrKind},

		{items(file("a", -1, sumOf(1))), api.ErrRange}, {items(file("a", 65537, sumOf(1))), api.ErrRange},
		{items(file("a", math.MinInt, sumOf(1))), api.ErrRange}, {items(file("a", math.MaxInt, sumOf(1))), api.ErrRange}, {items(file("a", 1<<32, sumOf(1))), api.ErrRange},
		{items(ok, file("b", -1, sumOf(1))), api.ErrRange}, {items(file("a", 65537, sumOf(1)), file("b", 0, sumOf(1))), api.ErrRange},
		{items(api.Item{Path: "a", Dir: true, Size: -1}), api.ErrRange}, {items(api.Item{Path: "a", Dir: true, Size: 65537}), api.ErrRange},

		{items(api.Item{Path: "a", Dir: true, Size: 1}), api.ErrKind}, {items(api.Item{Path: "a", Dir: true, Size: 65536}), api.ErrKind},
		{items(api.Item{Path: "a", Dir: true, Sum: sumAt(0)}), api.ErrKind}, {items(api.Item{Path: "a", Dir: true, Sum: sumAt(31)}), api.ErrKind},
		{items(api.Item{Path: "a", Dir: true, Size: 3, Sum: sumOf(1)}), api.ErrKind}, {items(ok, api.Item{Path: "b", Dir: true, Sum: sumOf(1)}, dir("c")), api.ErrKind},
	} {
		if got := holdPut(t, c.l); got != c.want {
			t.Errorf("Check(%v) = %d, want %d", c.l, int(got), int(c.want))
		}
	}
}

func TestCheckOrder(t *testing.T) { // P10.2: an error that is named first stands ahead, whichever item has it
	badDir, badSize := api.Item{Path: "a", Dir: true, Size: 1}, file("b", -1, api.Hash{})
	for _, c := range []struct {
		l    []api.Item
		want api.Errno
	}{
		{items(badDir, badSize), api.ErrRange}, {items(badDir, badSize, file("a", 0, api.Hash{})), api.ErrThere},
		{items(badDir, file("b/c", 0, api.Hash{})), api.ErrNone}, {items(file("a", -1, api.Hash{}), file("a/b", 0, api.Hash{})), api.ErrKind},
		{items(badDir, file("a/", 0, api.Hash{})), api.ErrName}, {items(badDir, api.Item{Path: "b", Dir: true, Size: -1}), api.ErrRange},
		{append(flat(64), badSize), api.ErrLong},
	} {
		if got := holdPut(t, c.l); got != c.want {
			t.Errorf("Check(%v) = %d, want %d", c.l, int(got), int(c.want))
		}
	}
}

func TestPut(t *testing.T) { // P10.3
	seven := strings.Repeat("\x07", 32)
	for _, c := range []struct {
		l    []api.Item
		want string
	}{
		{nil, "\x00"}, {items(), "\x00"}, {items(dir("a")), "\x01\x01a\x01"}, {items(dir("a"), dir("a/b")), "\x02\x01a\x01\x03a/b\x01"},
		{items(file("a", 0, api.Hash{})), "\x01\x01a\x00\x00" + strings.Repeat("\x00", 32)}, {items(file("a", 63, sumOf(7))), "\x01\x01a\x00\x3f" + seven},
		{items(file("a", 64, sumOf(7))), "\x01\x01a\x00\x40\x40" + seven}, {items(file("a", 16383, sumOf(7))), "\x01\x01a\x00\x7f\xff" + seven},
		{items(file("a", 16384, sumOf(7))), "\x01\x01a\x00\x80\x00\x40\x00" + seven}, {items(file("a", 65536, sumOf(7))), "\x01\x01a\x00\x80\x01\x00\x00" + seven},
		{items(file("a", 1, sumAt(0)), dir("b")), "\x02\x01a\x00\x01\x01" + strings.Repeat("\x00", 31) + "\x01b\x01"},
		{items(file("a", 1, sumAt(31)), dir("b")), "\x02\x01a\x00\x01" + strings.Repeat("\x00", 31) + "\x01\x01b\x01"},
	} {
		holdPut(t, c.l)
		if got, err := Put(c.l); string(got) != c.want || err != api.OK {
			t.Errorf("Put(%v) = %x, %d, want %x", c.l, got, int(err), c.want)
		}
	}
}

func TestPutEdges(t *testing.T) { // P10.3, P10.5: where the numbers' widths change
	for _, n := range []int{1, 2, 63, 64} {
		if holdPut(t, flat(n)) != api.OK {
			t.Errorf("%d files are refused", n)
		}
	}
	for _, n := range []int{40, 62, 63, 64, 65, 127, 128} {
		l := deep(n)
		if p := l[len(l)-1].Path; len(p) != n {
			t.Fatalf("the path has %d bytes, not %d", len(p), n)
		}
		if holdPut(t, l) != api.OK {
			t.Errorf("a path of %d bytes is refused", n)
		}
	}
	for _, size := range []int{0, 1, 62, 63, 64, 65, 16382, 16383, 16384, 16385, 65535, 65536} {
		if holdPut(t, items(file("a", size, sumOf(3)))) != api.OK {
			t.Errorf("a Size of %d is refused", size)
		}
	}
}

func TestGetRefuses(t *testing.T) { // P10.3
	sum := strings.Repeat("\x07", 32)
	whole := "\x02\x01a\x01\x03a/b\x00\x03" + sum
	if !holdGet(t, whole) || !holdGet(t, "\x00") || !holdGet(t, plainPut(flat(64))) {
		t.Fatal("Get refuses what is put")
	}
	for cut := range whole {
		if holdGet(t, whole[:cut]) {
			t.Errorf("Get takes the first %d bytes", cut)
		}
	}
	for _, s := range []string{
		"", whole + "\x00", whole + whole, "\x00\x00", "\x03" + whole[1:], "\x01" + whole[1:], "\x00" + whole[1:],
		"\x01\x01a\x02", "\x01\x01a\xff", "\x01\x01a\x02\x03" + sum, "\x01\x01a\x81\x03" + sum, // a kind that is none
		"\x40\x00", "\x40\x01\x01a\x01", "\x80\x00\x00\x01\x01a\x01", "\xc0\x00\x00\x00\x00\x00\x00\x00", // how many there are, too wide
		"\x01\x40\x01a\x01", "\x01\x80\x00\x00\x01a\x01", "\x01\xc0\x00\x00\x00\x00\x00\x00\x01a\x01", // a path's length, too wide
		"\x01\x01a\x00\x40\x03" + sum, "\x01\x01a\x00\x80\x00\x00\x03" + sum, "\x01\x01a\x00\xc0\x00\x00\x00\x00\x00\x00\x03" + sum, // a Size, too wide
		"\x01\x01a\x00\x80\x01\x00\x01" + sum, "\x01\x01a\x00\xff\xff\xff\xff\xff\xff\xff\xff" + sum, // a Size above MaxFile
		"\x40\x41" + plainPut(flat(65))[2:], "\xff\xff\xff\xff\xff\xff\xff\xff", "\xbf\xff\xff\xff\x01a\x01", // too many
		"\x01\xff\xff\xff\xff\xff\xff\xff\xffa\x01", "\x01\x40\x81" + strings.Repeat("a", 129) + "\x01", // a path that is too long
		"\x01\x00\x01", "\x01\x01/\x01", "\x01\x01 \x01", "\x01\x03a/b\x01", "\x01\x08.sumpter\x01", // no tree
		"\x02\x01a\x01\x01a\x01", "\x02\x01b\x01\x01a\x01", "\x02\x01a\x00\x03" + sum + "\x03a/b\x01",
		"\x01\x01a\x01\x00" + strings.Repeat("\x00", 32), "\x01\x01a\x01\x00", // a directory with a Size
		"\x01\x01a\x00" + sum, "\x01\x01a\x00\x03" + sum[1:], "\x01\x01a\x00\x03" + sum + "\x07",
	} {
		if holdGet(t, s) {
			t.Errorf("Get takes %x", s)
		}
	}
}

func TestGetOfSmallTexts(t *testing.T) { // P10.3, P10.5: all texts of a few pieces
	pieces := []string{"\x00", "\x01", "\x02", "\x03", "a", "b", "/", "\x40", strings.Repeat("\x01", 32), strings.Repeat("a", 31)}
	taken := 0
	var grow func(s string, more int)
	grow = func(s string, more int) {
		if holdGet(t, s) {
			taken++
		}
		if more == 0 {
			return
		}
		for _, x := range pieces {
			grow(s+x, more-1)
		}
	}
	grow("", 5)
	for _, ahead := range []string{"\x02\x01a\x01", "\x02\x01a\x01\x03a/b", "\x02\x01a\x00\x00"} {
		grow(ahead, 4)
	}
	if taken < 20 {
		t.Errorf("only %d texts were taken", taken)
	}
}

func TestGetOfChanged(t *testing.T) { // P10.3, P10.5: what is put, with a byte changed, left out or laid between
	for _, l := range [][]api.Item{
		items(dir("a"), file("a/b", 3, sumOf(9)), file("c", 16384, sumAt(4))), items(file("a", 64, sumOf(0)), dir("b"), dir("b/c"), file("b/c/d", 0, sumOf(1))), flat(3), deep(64),
	} {
		s := plainPut(l)
		for at := range len(s) {
			holdGet(t, s[:at]+s[at+1:])
			for c := range 256 {
				holdGet(t, s[:at]+string([]byte{byte(c)})+s[at+1:])
				holdGet(t, s[:at]+string([]byte{byte(c)})+s[at:])
			}
		}
	}
}

// someItem makes an item by chance, at times one that may not be.
func someItem(r *rand.Rand) api.Item {
	paths := []string{"a", "a/b", "a/b/c", "a/d", "b", "b/a", "c", "c~", "", ".sumpter", "a//b"}
	sizes := []int{0, 1, 3, 63, 64, 16384, 65536, 65537, -1}
	x := api.Item{Path: paths[r.Intn(len(paths)-2*r.Intn(2))], Dir: r.Intn(2) == 0}
	if r.Intn(12) == 0 || !x.Dir {
		x.Size = sizes[r.Intn(len(sizes)-2*r.Intn(2))]
	}
	if r.Intn(12) == 0 || !x.Dir {
		x.Sum = sumOf(byte(r.Intn(3)))
	}
	return x
}

func TestByChance(t *testing.T) { // P10.2, P10.3, P10.5
	r := rand.New(rand.NewSource(10))
	seen := map[api.Errno]int{}
	for range 100000 {
		var l []api.Item
		for range r.Intn(6) {
			l = append(l, someItem(r))
		}
		if r.Intn(4) > 0 {
			slices.SortFunc(l, func(x, y api.Item) int { return strings.Compare(x.Path, y.Path) })
		}
		seen[holdPut(t, l)]++
		if got := Stand(l); !reflect.DeepEqual(got, plainStand(l)) { // P10.4
			t.Fatalf("Stand(%v) = %v", l, got)
		}
	}
	for _, err := range []api.Errno{api.OK, api.ErrName, api.ErrThere, api.ErrNone, api.ErrKind, api.ErrRange} {
		if seen[err] < 50 {
			t.Errorf("%d came %d times", int(err), seen[err])
		}
	}
}

func TestMadeIsPut(t *testing.T) { // P10.1, P10.5: what Make tells is put, and read as it was
	r := rand.New(rand.NewSource(11))
	for range 300 {
		var l []api.Entry
		for range 12 {
			data := make([]byte, []int{0, 1, 63, 64, 200}[r.Intn(5)])
			r.Read(data)
			x := api.Entry{Path: []string{"a", "a/b", "a/b/c", "d", "d/e", "f"}[r.Intn(6)], Data: data}
			if x.Path == "a" || x.Path == "a/b" || x.Path == "d" {
				x.Dir, x.Data = true, nil
			}
			if more, err := tree.Put(l, x); err == api.OK {
				l = more
			}
		}
		made, err := Make(l)
		if err != api.OK || len(made) != len(l) {
			t.Fatalf("Make = %v, %d", made, int(err))
		}
		for i, x := range l {
			want := api.Item{Path: x.Path, Dir: x.Dir}
			if !x.Dir {
				want.Size, want.Sum = len(x.Data), sha.Of(x.Data)
			}
			if made[i] != want {
				t.Fatalf("item %d is %v, want %v", i, made[i], want)
			}
		}
		if holdPut(t, made) != api.OK {
			t.Fatalf("%v is refused", made)
		}
		if Total(made) != tree.Size(l) {
			t.Fatalf("Total = %d, want %d", Total(made), tree.Size(l))
		}
	}
}

func TestStand(t *testing.T) { // P10.4
	l := items(dir("a"), file("a/b", 3, sumOf(7)), file("c", 0, api.Hash{}), dir("d"))
	want := []api.Entry{{Path: "a", Dir: true}, {Path: "a/b", Data: bytes.Repeat([]byte{7}, 32)}, {Path: "c", Data: make([]byte, 32)}, {Path: "d", Dir: true}}
	if got := Stand(l); !tree.Same(got, want) {
		t.Errorf("Stand = %v", got)
	}
	if got := Stand(nil); len(got) != 0 {
		t.Errorf("Stand(nil) = %v", got)
	}
	// Lists that may not be have stand-ins, too, and a directory's has no Data whatever its Sum is.
	odd := items(api.Item{Path: "b//", Dir: true, Size: 9, Sum: sumOf(7)}, file("", -1, sumAt(31)), file("", -1, sumAt(31)))
	want = []api.Entry{{Path: "b//", Dir: true}, {Data: append(make([]byte, 31), 1)}, {Data: append(make([]byte, 31), 1)}}
	if got := Stand(odd); !tree.Same(got, want) {
		t.Errorf("Stand = %v", got)
	}
	if got := Stand(flat(65)); len(got) != 65 || got[64].Path != "f064" || !bytes.Equal(got[64].Data, bytes.Repeat([]byte{64}, 32)) {
		t.Errorf("Stand of 65 items tells %d", len(got))
	}
}

func TestFind(t *testing.T) { // P10.4
	l := items(dir("a"), file("a/b", 3, sumOf(7)), file("c", -5, sumOf(1)), file("c", 6, sumOf(2)), file("", 1, sumOf(3)))
	for at, want := range map[string]int{"a": 0, "a/b": 1, "c": 2, "": 4} {
		if got, is := Find(l, at); !is || got != l[want] {
			t.Errorf("Find(%q) = %v, %v", at, got, is)
		}
	}
	for _, p := range []string{"b", "a/", "/a", "a/b/c", "A", "cc"} {
		if got, is := Find(l, p); is || got != (api.Item{}) {
			t.Errorf("Find(%q) = %v, %v", p, got, is)
		}
	}
	for _, p := range []string{"", "a"} {
		if got, is := Find(nil, p); is || got != (api.Item{}) {
			t.Errorf("Find(nothing, %q) = %v, %v", p, got, is)
		}
	}
}

func TestTotal(t *testing.T) { // P10.4
	for _, c := range []struct {
		l    []api.Item
		want int
	}{
		{nil, 0}, {items(), 0}, {items(dir("a")), 0}, {items(file("a", 0, sumOf(1))), 0}, {items(file("a", 3, sumOf(1))), 3},
		{items(dir("a"), file("a/b", 3, sumOf(1)), dir("b"), file("b/c", 65536, sumOf(1)), file("d", 1, sumOf(1))), 65540},
		{items(file("a", 3, sumOf(1)), file("a", 3, sumOf(1))), 6}, {flat(64), 2016}, {flat(65), 2080},
		{items(api.Item{Path: "a", Dir: true, Size: 5}, file("b", 3, api.Hash{})), 3}, // a directory is no file, whatever its Size
	} {
		if got := Total(c.l); got != c.want {
			t.Errorf("Total(%v) = %d, want %d", c.l, got, c.want)
		}
	}
	Total(items(file("a", math.MaxInt, api.Hash{}), file("b", math.MaxInt, api.Hash{}), file("c", math.MinInt, api.Hash{})))
}

func TestSame(t *testing.T) { // P10.4
	a := items(dir("a"), file("a/b", 3, sumOf(7)), file("c", 4, sumOf(8)))
	if !Same(a, slices.Clone(a)) || !Same(nil, nil) || !Same(nil, items()) || !Same(items(), nil) {
		t.Error("the same items are not the same")
	}
	change := func(at int, how func(x *api.Item)) []api.Item {
		b := slices.Clone(a)
		how(&b[at])
		return b
	}
	others := [][]api.Item{
		nil, a[:2], a[1:], append(slices.Clone(a), a[2]), items(a[1], a[0], a[2]), items(a[0], a[2], a[1]), items(api.Item{}, api.Item{}, api.Item{}),
	}
	for at := range a {
		others = append(others,
			change(at, func(x *api.Item) { x.Path += "x" }), change(at, func(x *api.Item) { x.Dir = !x.Dir }), change(at, func(x *api.Item) { x.Size++ }),
			change(at, func(x *api.Item) { x.Sum[0]++ }), change(at, func(x *api.Item) { x.Sum[31]++ }), change(at, func(x *api.Item) { x.Sum[16] ^= 0x80 }))
	}
	for _, b := range others {
		if Same(a, b) || Same(b, a) {
			t.Errorf("%v is the same as %v", a, b)
		}
	}
	odd := items(file("", -1, sumOf(1)), file("", -1, sumOf(1)))
	if !Same(odd, slices.Clone(odd)) || Same(odd, odd[:1]) {
		t.Error("items that may not be are not held against each other by their fields")
	}
}

// spoil overwrites bytes, with their spare room.
func spoil(b []byte) {
	b = b[:cap(b)]
	for i := range b {
		b[i] ^= 0xa5
	}
}

func TestOwnMemory(t *testing.T) { // the rules: an answer is new memory, an argument is not kept and not changed
	tr := []api.Entry{{Path: "a", Dir: true}, {Path: "a/b", Data: append(make([]byte, 0, 9), "abc"...)}, {Path: "c", Data: []byte("xy")}}
	made, _ := Make(tr)
	want := slices.Clone(made)
	if string(tr[1].Data) != "abc" || string(tr[2].Data) != "xy" {
		t.Error("Make changed the tree")
	}
	spoil(tr[1].Data)
	if !Same(made, want) {
		t.Error("the items hang on the tree's bytes")
	}

	b, _ := Put(made)
	laid := string(b)
	got, _ := Get(b)
	spoil(b)
	if !Same(got, want) || !Same(made, want) {
		t.Error("the items hang on the bytes that were read, or put")
	}
	if again, _ := Put(made); string(again) != laid {
		t.Error("a second Put answers otherwise")
	}

	s := Stand(made)
	stood := tree.Copy(s)
	spoil(s[1].Data)
	if !Same(made, want) || !bytes.Equal(s[2].Data, stood[2].Data) || !tree.Same(Stand(made), stood) {
		t.Error("stand-ins share memory with the items, or with one another")
	}
	made[2].Sum = sumOf(1)
	if !bytes.Equal(s[2].Data, stood[2].Data) {
		t.Error("a stand-in hangs on its item")
	}
}

func FuzzGet(f *testing.F) { // P10.3, P10.5
	f.Add([]byte(plainPut(flat(3))))
	f.Add([]byte(plainPut(deep(64))))
	f.Add([]byte(wide(1)))
	f.Fuzz(func(t *testing.T, b []byte) { holdGet(t, string(b)) })
}
