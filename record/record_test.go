package record

import (
	"bytes"
	"fmt"
	"math"
	"math/rand"
	"slices"
	"strings"
	"testing"

	"sumpter/api"
	"sumpter/crc"
	"sumpter/field"
	"sumpter/path"
)

// sum is a sum all of whose bytes differ.
func sum(first byte) api.Hash {
	var h api.Hash
	for i := range h {
		h[i] = first + byte(i)
	}
	return h
}

func begin(id int, p string, size int) Rec {
	return Rec{Kind: Begin, ID: id, Path: p, Sum: sum(byte(id)), Size: size}
}
func mark(id, off int) Rec { return Rec{Kind: Mark, ID: id, Off: off} }
func done(id int) Rec      { return Rec{Kind: Done, ID: id} }
func drop(id int) Rec      { return Rec{Kind: Drop, ID: id} }
func skip(id int) Rec      { return Rec{Kind: Skip, ID: id} }

// part is what begin and mark leave.
func part(id int, p string, size, off int) Part {
	return Part{ID: id, Path: p, Sum: sum(byte(id)), Size: size, Off: off}
}

func state(next int, parts ...Part) State { return State{Parts: parts, Next: next} }

// put is the bytes of records, none of which may be refused.
func put(t testing.TB, l ...Rec) []byte {
	t.Helper()
	var b []byte
	for _, r := range l {
		x, err := Put(r)
		if err != api.OK {
			t.Fatalf("Put(%+v): %v", r, err)
		}
		b = append(b, x...)
	}
	return b
}

// longPath is a path of so many bytes.
func longPath(n int) string {
	return strings.Repeat("abcdefghijklmno/", n/16+1)[:n-1] + "z"
}

// TestKinds: the kinds' numbers are those of the chapter, as they go to the disk.
func TestKinds(t *testing.T) {
	for want, k := range []Kind{Begin, Mark, Done, Drop, Skip} {
		if int(k) != want {
			t.Errorf("kind %d has the number %d", want, k)
		}
	}
}

// TestExample: the chapter's example.
func TestExample(t *testing.T) {
	b, err := Put(mark(5, 9))
	body := []byte{0x01, 0x05, 0x09}
	if want := field.Text(string(crc.Seal(body))); err != api.OK || !bytes.Equal(b, want) || len(b) != 8 || b[0] != 7 || !bytes.Equal(b[1:4], body) {
		t.Errorf("Put = % x, %v", b, err)
	}
	s, n := Play([]Rec{begin(0, "a", 3), mark(0, 3), done(0)})
	if len(s.Parts) != 0 || s.Next != 1 || n != 3 {
		t.Errorf("Play = %+v, %d", s, n)
	}
}

// fault is an error of Check, and whether it applies.
type fault struct {
	is  bool
	err api.Errno
}

// plainCheck is P15.1, word by word.
func plainCheck(r Rec) api.Errno {
	isBegin, isMark := r.Kind == 0, r.Kind == 1
	pathErr := path.Check(r.Path)
	for _, f := range []fault{
		{r.Kind > 4, api.ErrArg},
		{r.ID < 0 || r.ID > 1<<40, api.ErrArg},
		{isBegin && pathErr != api.OK, pathErr},
		{isBegin && path.Reserved(r.Path), api.ErrName},
		{isBegin && (r.Size < 0 || r.Size > 65536), api.ErrRange},
		{!isBegin && r.Path != "", api.ErrForm},
		{!isBegin && r.Sum != api.Hash{}, api.ErrForm},
		{!isBegin && r.Size != 0, api.ErrForm},
		{r.Off < 0 || r.Off > 65536, api.ErrRange},
		{r.Off != 0 && !isMark, api.ErrForm},
	} {
		if f.is {
			return f.err
		}
	}
	return api.OK
}

// TestCheck: P15.1, error by error, and which of two is told.
func TestCheck(t *testing.T) {
	with := func(r Rec, change func(*Rec)) Rec { change(&r); return r }
	for _, c := range []struct {
		r    Rec
		want api.Errno
	}{
		{begin(0, "a", 0), api.OK},
		{begin(api.MaxTime, longPath(128), api.MaxFile), api.OK},
		{Rec{Kind: Begin, Path: "a"}, api.OK},
		{mark(0, 0), api.OK},
		{mark(api.MaxTime, api.MaxFile), api.OK},
		{done(3), api.OK},
		{drop(3), api.OK},
		{skip(api.MaxTime), api.OK},
		{Rec{Kind: 5}, api.ErrArg},
		{Rec{Kind: 255}, api.ErrArg},
		{skip(-1), api.ErrArg},
		{skip(api.MaxTime + 1), api.ErrArg},
		{mark(math.MinInt, 0), api.ErrArg},
		{done(math.MaxInt), api.ErrArg},
		{begin(-1, "", -1), api.ErrArg},
		{begin(0, "", 0), api.ErrName},
		{begin(0, "a//b", 0), api.ErrName},
		{begin(0, "..", 0), api.ErrName},
		{begin(0, longPath(129), 0), api.ErrLong},
		{begin(0, "1/2/3/4/5/6/7/8/9", 0), api.ErrLong},
		{begin(0, ".sumpter", 0), api.ErrName},
		{begin(0, ".sumpter-t0", -1), api.ErrName},
		{begin(0, ".sumpter/a", 0), api.ErrName},
		{begin(0, "a/.sumpter", 0), api.OK},
		{begin(0, ".sumpte", 0), api.OK},
		{begin(0, longPath(129), -1), api.ErrLong},
		{begin(0, "a", -1), api.ErrRange},
		{begin(0, "a", api.MaxFile+1), api.ErrRange},
		{begin(0, "a", math.MinInt), api.ErrRange},
		{begin(0, "a", math.MaxInt), api.ErrRange},
		{with(begin(0, "a", 9), func(r *Rec) { r.Off = 1 }), api.ErrForm},
		{with(begin(0, "a", 9), func(r *Rec) { r.Off = -1 }), api.ErrRange},
		{with(begin(0, "a", 9), func(r *Rec) { r.Off = api.MaxFile }), api.ErrForm},
		{with(begin(0, "a", 9), func(r *Rec) { r.Off = api.MaxFile + 1 }), api.ErrRange},
		{with(mark(0, 1), func(r *Rec) { r.Path = "a" }), api.ErrForm},
		{with(done(0), func(r *Rec) { r.Sum[31] = 1 }), api.ErrForm},
		{with(drop(0), func(r *Rec) { r.Size = -1 }), api.ErrForm},
		{with(skip(0), func(r *Rec) { r.Size = 1 }), api.ErrForm},
		{with(mark(0, -1), func(r *Rec) { r.Size = 1 }), api.ErrForm},
		{mark(0, -1), api.ErrRange},
		{mark(0, api.MaxFile+1), api.ErrRange},
		{mark(0, math.MinInt), api.ErrRange},
		{mark(0, math.MaxInt), api.ErrRange},
		{with(done(0), func(r *Rec) { r.Off = 1 }), api.ErrForm},
		{with(drop(0), func(r *Rec) { r.Off = -1 }), api.ErrRange},
		{with(skip(0), func(r *Rec) { r.Off = api.MaxFile + 1 }), api.ErrRange},
		{with(skip(0), func(r *Rec) { r.Off = api.MaxFile }), api.ErrForm},
	} {
		if got := Check(c.r); got != c.want {
			t.Errorf("Check(%+v) = %v, want %v", c.r, got, c.want)
		}
		if c.want != plainCheck(c.r) {
			t.Errorf("plain check of %+v = %v, want %v", c.r, plainCheck(c.r), c.want)
		}
	}
}

// edges are records of all edges of their fields, may they be or not.
func edges(yield func(Rec) bool) {
	kinds := []Kind{Begin, Mark, Done, Drop, Skip, 5, 255}
	ids := []int{math.MinInt, -1, 0, 63, 64, 1<<14 - 1, 1 << 14, 1<<30 - 1, 1 << 30, api.MaxTime, api.MaxTime + 1, math.MaxInt}
	paths := []string{"", "a", "a/b", ".sumpter", "/", longPath(63), longPath(64), longPath(128), longPath(129)}
	nums := []int{math.MinInt, -1, 0, 1, api.MaxFile, api.MaxFile + 1, math.MaxInt}
	for _, k := range kinds {
		for _, id := range ids {
			for _, p := range paths {
				for i := range 4 * len(nums) * len(nums) {
					r := Rec{Kind: k, ID: id, Path: p, Size: nums[i/4%len(nums)], Off: nums[i/4/len(nums)]}
					if at := i % 4; at > 0 {
						r.Sum[[]int{0, 15, 31}[at-1]] = 1
					}
					if !yield(r) {
						return
					}
				}
			}
		}
	}
}

// TestCheckAll: P15.1 at all edges of all fields; P15.2: Put tells Check's error and nothing, or bytes that are scanned as the record.
func TestCheckAll(t *testing.T) {
	may := 0
	for r := range edges {
		want := plainCheck(r)
		if got := Check(r); got != want {
			t.Fatalf("Check(%+v) = %v, want %v", r, got, want)
		}
		b, err := Put(r)
		if err != want || (err != api.OK && b != nil) {
			t.Fatalf("Put(%+v) = % x, %v, want %v", r, b, err, want)
		}
		if err != api.OK {
			continue
		}
		may++
		l, n, err := Scan(b)
		if err != api.OK || n != len(b) || len(l) != 1 || l[0] != r {
			t.Fatalf("Scan of Put(%+v) = %+v, %d, %v", r, l, n, err)
		}
	}
	if may == 0 {
		t.Error("no record may be")
	}
}

// TestPut: P15.2: the bytes of each kind, by hand.
func TestPut(t *testing.T) {
	h := sum(0x20)
	for _, c := range []struct {
		r    Rec
		body string
	}{
		{Rec{Kind: Begin, ID: 5, Path: "a/b", Sum: h, Size: 9}, "\x00\x05\x03a/b" + string(h[:]) + "\x09"},
		{Rec{Kind: Begin, Path: "c"}, "\x00\x00\x01c" + string(make([]byte, 32)) + "\x00"},
		{Rec{Kind: Begin, ID: api.MaxTime, Path: longPath(128), Sum: h, Size: api.MaxFile}, "\x00\xc0\x00\x01\x00\x00\x00\x00\x00\x40\x80" + longPath(128) + string(h[:]) + "\x80\x01\x00\x00"},
		{mark(0, 0), "\x01\x00\x00"},
		{mark(64, 63), "\x01\x40\x40\x3f"},
		{mark(1<<14, 1<<14), "\x01\x80\x00\x40\x00\x80\x00\x40\x00"},
		{mark(1<<30, api.MaxFile), "\x01\xc0\x00\x00\x00\x40\x00\x00\x00\x80\x01\x00\x00"},
		{done(7), "\x02\x07"},
		{drop(7), "\x03\x07"},
		{skip(7), "\x04\x07"},
	} {
		sealed := append([]byte(c.body), crc.Bytes(crc.Of([]byte(c.body)))...)
		want := append(field.Num(len(sealed)), sealed...)
		if got, err := Put(c.r); err != api.OK || !bytes.Equal(got, want) {
			t.Errorf("Put(%+v) = % x, %v, want % x", c.r, got, err, want)
		}
	}
}

// wrap is a text with a number ahead, as a record is laid, of a body that may be no record's.
func wrap(body string) []byte { return field.Text(string(crc.Seal([]byte(body)))) }

// TestScanForm: P15.2: whole texts that Put does not lay are ErrForm, with what stands ahead of them.
func TestScanForm(t *testing.T) {
	zero := string(make([]byte, 32))
	sealed := string(crc.Seal([]byte{4, 7}))
	for name, b := range map[string][]byte{
		"nothing":              {0},
		"a byte":               {1, 0},
		"three bytes":          {3, 0, 0, 0},
		"a sum of nothing":     wrap(""),
		"a kind alone":         wrap("\x04"),
		"no kind":              wrap("\x05\x07"),
		"no kind, far off":     wrap("\xff\x07"),
		"an ID not shortest":   wrap("\x04\x40\x07"),
		"an ID cut off":        wrap("\x04\x40"),
		"an ID too great":      wrap("\x04\xc0\x00\x01\x00\x00\x00\x00\x01"),
		"the greatest ID":      wrap("\x04\xff\xff\xff\xff\xff\xff\xff\xff"),
		"a byte behind":        wrap("\x04\x07\x00"),
		"a Mark without Off":   wrap("\x01\x07"),
		"an Off not shortest":  wrap("\x01\x07\x40\x01"),
		"an Off too great":     wrap("\x01\x07\x80\x01\x00\x01"),
		"a Mark and a byte":    wrap("\x01\x07\x01\x00"),
		"a Begin without path": wrap("\x00\x07"),
		"an empty path":        wrap("\x00\x07\x00" + zero + "\x00"),
		"a bad path":           wrap("\x00\x07\x02a/" + zero + "\x00"),
		"a reserved path":      wrap("\x00\x07\x08.sumpter" + zero + "\x00"),
		"a long path":          wrap("\x00\x07\x40\x81" + longPath(129) + zero + "\x00"),
		"a path's length":      wrap("\x00\x07\x40\x01a" + zero + "\x00"),
		"a sum cut off":        wrap("\x00\x07\x01a" + zero[1:]),
		"a Size cut off":       wrap("\x00\x07\x01a" + zero),
		"a Size not shortest":  wrap("\x00\x07\x01a" + zero + "\x40\x00"),
		"a Size too great":     wrap("\x00\x07\x01a" + zero + "\x80\x01\x00\x01"),
		"a Begin and a byte":   wrap("\x00\x07\x01a" + zero + "\x00\x00"),
		"another checksum":     field.Text(sealed[:5] + string(sealed[5]^1)),
		"a byte turned":        field.Text("\x03" + sealed[1:]),
		"a length not least":   append([]byte{0x40}, put(t, skip(7))...),
		"one less":             append([]byte{5}, sealed...),
		"one more":             append([]byte{7}, sealed+"\x00"...),
	} {
		for _, ahead := range [][]Rec{nil, {mark(1, 2)}, {begin(0, "x", 5), drop(0)}} {
			for _, behind := range [][]byte{nil, {0}, put(t, skip(9))} {
				head := put(t, ahead...)
				l, n, err := Scan(slices.Concat(head, b, behind))
				if err != api.ErrForm || n != len(head) || !slices.Equal(l, ahead) {
					t.Errorf("%s behind %d records: %+v, %d, %v", name, len(ahead), l, n, err)
				}
			}
		}
	}
}

// TestScanEnds: P15.2: which ends are cut off, and which cannot be the beginning of a record: of the number, and behind it, at 512.
func TestScanEnds(t *testing.T) {
	many := func(head string, n int) string { return head + strings.Repeat("\x00", n) }
	for _, c := range []struct {
		end  string
		want api.Errno
	}{
		{"", api.OK},
		{"\x01", api.ErrCut},
		{"\x3f", api.ErrCut},
		{"\x06\x04\x07", api.ErrCut},
		{"\x06\xff\xff\xff\xff\xff", api.ErrCut},
		{"\x06\xff\xff\xff\xff\xff\xff", api.ErrForm},
		{"\x40", api.ErrCut},
		{"\x7f", api.ErrCut},
		{"\x40\x3f", api.ErrForm},
		{"\x40\x3fab", api.ErrForm},
		{"\x40\x40", api.ErrCut},
		{many("\x40\x40", 63), api.ErrCut},
		{many("\x40\x40", 64), api.ErrForm},
		{"\x42\x00", api.ErrCut},
		{many("\x42\x00", 511), api.ErrCut},
		{many("\x42\x00", 512), api.ErrForm},
		{"\x42\x01", api.ErrForm},
		{many("\x42\x01", 3), api.ErrForm},
		{"\x7f\xff", api.ErrForm},
		{"\x80", api.ErrCut},
		{"\x80\x00", api.ErrCut},
		{"\x80\x00\x3f", api.ErrForm},
		{"\x80\x00\x3f\xff", api.ErrForm},
		{"\x80\x00\x40", api.ErrCut},
		{"\x80\x00\x40\x00", api.ErrForm},
		{"\x80\x01\x00", api.ErrCut},
		{"\xbf\xff\xff", api.ErrCut},
		{"\xbf\xff\xff\xff", api.ErrForm},
		{"\xc0", api.ErrCut},
		{"\xc0\x00\x00\x00", api.ErrCut},
		{"\xc0\x00\x00\x00\x3f", api.ErrForm},
		{"\xc0\x00\x00\x00\x3f\xff\xff", api.ErrForm},
		{"\xc0\x00\x00\x00\x40", api.ErrCut},
		{"\xc0\x00\x00\x00\x40\x00\x00", api.ErrCut},
		{"\xc0\x00\x00\x00\x40\x00\x00\x00", api.ErrForm},
		{"\xff\xff\xff\xff\xff\xff\xff", api.ErrCut},
		{"\xff\xff\xff\xff\xff\xff\xff\xff", api.ErrForm},
		{many("\xff\xff\xff\xff\xff\xff\xff\xff", 9), api.ErrForm},
	} {
		for _, ahead := range [][]Rec{nil, {begin(3, "x", 5), mark(3, 4)}} {
			head := put(t, ahead...)
			l, n, err := Scan(append(head, c.end...))
			if err != c.want || n != len(head) || !slices.Equal(l, ahead) {
				t.Errorf("% x behind %d records: %+v, %d, %v, want %v", c.end, len(ahead), l, n, err, c.want)
			}
		}
	}
}

// begins are all beginnings, of at most two bytes, of the bytes of numbers, without these themselves.
func begins() map[string]int {
	all := map[string]int{}
	add := func(n int) {
		b := field.Num(n)
		for i := 1; i < len(b) && i <= 2; i++ {
			all[string(b[:i])] = 1
		}
	}
	for n := range 1 << 14 {
		add(n)
	}
	for n := 1 << 14; n < 1<<30; n += 1 << 14 {
		add(n)
	}
	for n := 1 << 30; n < 1<<62-1<<46; n += 1 << 46 {
		add(n)
	}
	add(1<<62 - 1)
	return all
}

// TestScanShort: P15.2, of all texts of at most two bytes.
func TestScanShort(t *testing.T) {
	all := begins()
	for i := range 1<<8 + 1<<16 {
		b := []byte{byte(i)}
		if i >= 1<<8 {
			b = []byte{byte(i >> 8), byte(i)} // from 01 00 on; 00 and a byte come last
		}
		want := api.ErrForm
		if all[string(b)] == 1 {
			want = api.ErrCut
		}
		for n := 1; n <= 512; n++ { // no record is so short that it is whole here
			if x := field.Num(n); bytes.HasPrefix(b, x) && len(b)-len(x) < n {
				want = api.ErrCut
			}
		}
		if l, n, err := Scan(b); err != want || n != 0 || len(l) != 0 {
			t.Fatalf("Scan(% x) = %+v, %d, %v, want %v", b, l, n, err, want)
		}
	}
}

// plainRead reads a record's text part by part, and tells whether it is one.
func plainRead(text string) (Rec, bool) {
	body, err := crc.Open([]byte(text))
	if err != api.OK {
		return Rec{}, false
	}
	from := field.New(body)
	r := Rec{Kind: Kind(from.Byte()), ID: from.Num(math.MaxInt)}
	if r.Kind == 0 {
		r.Path = from.Text(math.MaxInt)
		h := from.Raw(32)
		copy(r.Sum[:], h)
		r.Size = from.Num(math.MaxInt)
	}
	if r.Kind == 1 {
		r.Off = from.Num(math.MaxInt)
	}
	if from.Done() != api.OK || plainCheck(r) != api.OK {
		return Rec{}, false
	}
	return r, true
}

// plainScan is P15.2's Scan, by the layers' own readers.
func plainScan(b []byte) (l []Rec, n int, err api.Errno) {
	for n < len(b) {
		from := field.New(b[n:])
		text := from.Text(512)
		if from.Err() == api.ErrCut && beginsNumber(b[n:]) {
			return l, n, api.ErrCut
		}
		r, is := plainRead(text)
		if from.Err() != api.OK || !is {
			return l, n, api.ErrForm
		}
		l = append(l, r)
		n = len(b) - from.Left()
	}
	return l, n, api.OK
}

// beginsNumber tells whether bytes begin as some number's bytes do, as far as both go: the least number of a width stands in the way of those below it.
func beginsNumber(b []byte) bool {
	least := [][]byte{{0}, {0x40, 0x40}, {0x80, 0, 0x40, 0}, {0xc0, 0, 0, 0, 0x40, 0, 0, 0}}[b[0]>>6]
	n := min(len(b), len(least))
	return bytes.Compare(b[:n], least[:n]) >= 0
}

// TestBeginsNumber: what the plain scan leans on, held against numbers.
func TestBeginsNumber(t *testing.T) {
	all := begins()
	for i := range 1 << 16 {
		for _, b := range [][]byte{{byte(i)}, {byte(i >> 8), byte(i)}} {
			if wide := []int{1, 2, 4, 8}[b[0]>>6]; wide > len(b) && beginsNumber(b) != (all[string(b)] == 1) {
				t.Fatalf("% x: %v", b, beginsNumber(b))
			}
		}
	}
}

// chance is a record by chance, which may be.
func chance(x *rand.Rand) Rec {
	id := x.Intn(1 << x.Intn(40))
	switch Kind(x.Intn(5)) {
	case Begin:
		return Rec{Kind: Begin, ID: id, Path: longPath(1 + x.Intn(128)), Sum: sum(byte(x.Int())), Size: x.Intn(api.MaxFile + 1)}
	case Mark:
		return mark(id, x.Intn(api.MaxFile+1))
	case Done:
		return done(id)
	case Drop:
		return drop(id)
	}
	return skip(id)
}

// TestScanChance: P15.2, P15.6: records by chance, with bytes that are turned, taken out or put in, are scanned as by the words.
func TestScanChance(t *testing.T) {
	x := rand.New(rand.NewSource(15))
	seen := map[api.Errno]int{}
	for range 20000 {
		var l []Rec
		for range x.Intn(5) {
			l = append(l, chance(x))
		}
		b := put(t, l...)
		for range x.Intn(3) {
			at := x.Intn(len(b) + 1)
			switch x.Intn(4) {
			case 0:
				b = b[:at]
			case 1:
				b = slices.Insert(b, at, byte(x.Int()))
			case 2:
				if at < len(b) {
					b[at] ^= 1 << x.Intn(8)
				}
			case 3:
				if at < len(b) {
					b = slices.Delete(b, at, at+1)
				}
			}
		}
		want, wantN, wantErr := plainScan(b)
		got, n, err := Scan(b)
		if err != wantErr || n != wantN || !slices.Equal(got, want) {
			t.Fatalf("Scan(% x) = %+v, %d, %v, want %+v, %d, %v", b, got, n, err, want, wantN, wantErr)
		}
		seen[err]++
	}
	if seen[api.OK] == 0 || seen[api.ErrCut] == 0 || seen[api.ErrForm] == 0 {
		t.Errorf("not all answers were seen: %v", seen)
	}
}

// TestScanNumbers: P15.2: ends by chance that begin as numbers of all widths do are told as by the words.
func TestScanNumbers(t *testing.T) {
	x := rand.New(rand.NewSource(16))
	bytesOf := []byte{0, 1, 2, 0x3f, 0x40, 0x41, 0x42, 0x7f, 0x80, 0xbf, 0xc0, 0xff}
	for range 200000 {
		b := make([]byte, x.Intn(11))
		for i := range b {
			b[i] = bytesOf[x.Intn(len(bytesOf))]
			if i > 0 && i < 4 && x.Intn(2) == 0 {
				b[i] = 0
			}
		}
		_, wantN, wantErr := plainScan(b)
		l, n, err := Scan(b)
		if err != wantErr || n != wantN || len(l) != 0 {
			t.Fatalf("Scan(% x) = %+v, %d, %v, want %d, %v", b, l, n, err, wantN, wantErr)
		}
	}
}

// TestCutAnywhere: P15.6: records that are put are scanned as they were; cut off anywhere, those are that are whole.
func TestCutAnywhere(t *testing.T) {
	x := rand.New(rand.NewSource(17))
	for range 200 {
		var l []Rec
		ends := []int{0}
		var b []byte
		for range 1 + x.Intn(8) {
			r := chance(x)
			l = append(l, r)
			b = append(b, put(t, r)...)
			ends = append(ends, len(b))
		}
		for cut := range len(b) + 1 {
			whole, is := slices.BinarySearch(ends, cut)
			want := api.OK
			if !is {
				whole--
				want = api.ErrCut
			}
			got, n, err := Scan(b[:cut])
			if err != want || n != ends[whole] || !slices.Equal(got, l[:whole]) {
				t.Fatalf("cut at %d of %v: %+v, %d, %v", cut, ends, got, n, err)
			}
		}
	}
}

// TestTurned: P15.2: a record any of whose bits is turned is none; those ahead of it are.
func TestTurned(t *testing.T) {
	ahead := []Rec{begin(0, "x", 5), mark(0, 3)}
	head := put(t, ahead...)
	for _, r := range []Rec{begin(1, "a/b", 300), begin(70, longPath(100), 0), mark(0, 5), done(0), drop(0), skip(1 << 20)} {
		tail := put(t, r)
		for bit := range 8 * len(tail) {
			b := slices.Concat(head, tail)
			b[len(head)+bit/8] ^= 1 << (bit % 8)
			l, n, err := Scan(b)
			if err == api.OK || n != len(head) || !slices.Equal(l, ahead) {
				t.Errorf("%+v with bit %d turned: %+v, %d, %v", r, bit, l, n, err)
			}
		}
	}
}

// TestScanMany: P15.2: no number of records is too great.
func TestScanMany(t *testing.T) {
	one := put(t, skip(7))
	l, n, err := Scan(bytes.Repeat(one, 5000))
	if err != api.OK || n != 5000*len(one) || len(l) != 5000 || l[4999] != skip(7) {
		t.Errorf("%d records, %d, %v", len(l), n, err)
	}
}

// plainState is a state as the words have it: parts by their IDs.
type plainState struct {
	parts map[int]Part
	next  int
}

// step is P15.3, word by word.
func (s *plainState) step(r Rec) bool {
	x, is := s.parts[r.ID]
	switch r.Kind {
	case 0:
		for _, y := range s.parts {
			if y.Path == r.Path {
				return false
			}
		}
		if r.ID < s.next || len(s.parts) >= 64 {
			return false
		}
		s.parts[r.ID] = Part{r.ID, r.Path, r.Sum, r.Size, 0}
		s.next = r.ID + 1
	case 1:
		if !is || r.Off < x.Off || r.Off > x.Size {
			return false
		}
		x.Off = r.Off
		s.parts[r.ID] = x
	case 2, 3:
		if !is {
			return false
		}
		delete(s.parts, r.ID)
	case 4:
		if r.ID < s.next {
			return false
		}
		s.next = r.ID + 1
	default:
		return false
	}
	return true
}

// state is the plain state with its parts by rising IDs.
func (s *plainState) state() State {
	out := State{Next: s.next}
	for id := range s.next {
		if x, is := s.parts[id]; is {
			out.Parts = append(out.Parts, x)
		}
	}
	return out
}

// tell is a state as a text.
func tell(s State) string {
	return fmt.Sprintf("next %d %+v", s.Next, s.Parts)
}

// small are records of few IDs, paths and places.
func small() []Rec {
	var l []Rec
	for id := range 3 {
		l = append(l, done(id), skip(id), Rec{Kind: Begin, ID: id, Path: "a", Size: 1}, Rec{Kind: Begin, ID: id, Path: "b", Size: 2, Sum: sum(1)})
		for off := range 3 {
			l = append(l, mark(id, off))
		}
	}
	return append(l, drop(0), mark(0, -1), Rec{Kind: 5}, Rec{Kind: 255, ID: 1, Path: "a"})
}

// TestStepAll: P15.3, P15.4, P15.6: behind all short runs of records, Step tells what the words say, changes no state that it was given, and what Image tells plays the same state.
func TestStepAll(t *testing.T) {
	l := small()
	seen := map[string]int{}
	var runs func(s State, p plainState)
	runs = func(s State, p plainState) {
		if seen[tell(s)] > 0 {
			return
		}
		seen[tell(s)] = 1
		checkImage(t, s)
		for _, r := range l {
			before := tell(s)
			next := plainState{parts: map[int]Part{}, next: p.next}
			for id, x := range p.parts {
				next.parts[id] = x
			}
			want := next.step(r)
			got, ok := Step(s, r)
			if ok != want || tell(got) != tell(next.state()) || tell(s) != before {
				t.Fatalf("Step(%s, %+v) = %s, %v, want %s, %v; the state is %s", before, r, tell(got), ok, tell(next.state()), want, tell(s))
			}
			if ok {
				runs(got, next)
			}
		}
	}
	runs(State{}, plainState{parts: map[int]Part{}})
	if len(seen) < 50 {
		t.Errorf("%d states were seen", len(seen))
	}
}

// checkImage: P15.4: Image's records, word by word, and that they play the same state.
func checkImage(t *testing.T, s State) {
	t.Helper()
	var want []Rec
	next := 0
	for _, x := range s.Parts {
		want = append(want, Rec{0, x.ID, x.Path, x.Sum, x.Size, 0})
		if x.Off > 0 {
			want = append(want, Rec{Kind: 1, ID: x.ID, Off: x.Off})
		}
		next = x.ID + 1
	}
	if next < s.Next {
		want = append(want, Rec{Kind: 4, ID: s.Next - 1})
	}
	got := Image(s)
	if !slices.Equal(got, want) {
		t.Fatalf("Image(%s) = %+v, want %+v", tell(s), got, want)
	}
	if x, n := Play(got); n != len(got) || !Same(x, s) || tell(x) != tell(s) {
		t.Fatalf("Image(%s) plays %s, %d", tell(s), tell(x), n)
	}
}

// TestStep: P15.3, at its edges.
func TestStep(t *testing.T) {
	a, b := part(2, "a", 9, 4), part(5, "b", 0, 0)
	s := state(7, a, b)
	moved := a
	for _, c := range []struct {
		r    Rec
		ok   bool
		want State
	}{
		{begin(7, "c", 3), true, state(8, a, b, part(7, "c", 3, 0))},
		{begin(9, "c", 3), true, state(10, a, b, part(9, "c", 3, 0))},
		{begin(api.MaxTime, "c", 3), true, state(api.MaxTime+1, a, b, part(api.MaxTime, "c", 3, 0))},
		{begin(6, "c", 3), false, s},
		{begin(0, "c", 3), false, s},
		{begin(7, "a", 9), false, s},
		{begin(7, "b", 9), false, s},
		{begin(7, "a/b", 9), true, state(8, a, b, part(7, "a/b", 9, 0))},
		{Rec{Kind: Begin, ID: 7, Path: "c", Size: 9, Off: 4}, true, state(8, a, b, Part{ID: 7, Path: "c", Size: 9})},
		{mark(2, 4), true, s},
		{mark(2, 3), false, s},
		{mark(2, 9), true, state(7, func() Part { moved.Off = 9; return moved }(), b)},
		{mark(2, 10), false, s},
		{mark(5, 0), true, s},
		{mark(5, 1), false, s},
		{mark(5, -1), false, s},
		{mark(3, 0), false, s},
		{mark(7, 0), false, s},
		{done(2), true, state(7, b)},
		{drop(2), true, state(7, b)},
		{done(5), true, state(7, a)},
		{drop(5), true, state(7, a)},
		{done(3), false, s},
		{drop(7), false, s},
		{skip(6), false, s},
		{skip(7), true, state(8, a, b)},
		{skip(100), true, state(101, a, b)},
		{Rec{Kind: 5, ID: 2}, false, s},
		{Rec{Kind: 255, ID: 7, Path: "c"}, false, s},
	} {
		got, ok := Step(s, c.r)
		if ok != c.ok || tell(got) != tell(c.want) {
			t.Errorf("Step(%+v) = %s, %v, want %s, %v", c.r, tell(got), ok, tell(c.want), c.ok)
		}
	}
	if tell(s) != tell(state(7, part(2, "a", 9, 4), part(5, "b", 0, 0))) {
		t.Errorf("the state that was given is %s", tell(s))
	}
}

// TestFull: P15.3: there are at most 64 parts; when one goes there is room for one.
func TestFull(t *testing.T) {
	var l []Rec
	for id := range 65 {
		l = append(l, begin(id, fmt.Sprint("f", id), id))
	}
	s, n := Play(l)
	if n != 64 || len(s.Parts) != 64 || s.Next != 64 {
		t.Fatalf("%d records, %d parts, Next %d", n, len(s.Parts), s.Next)
	}
	if x, ok := Step(s, l[64]); ok || tell(x) != tell(s) {
		t.Errorf("a part more than 64 is taken")
	}
	s, ok := Step(s, drop(30))
	if !ok || len(s.Parts) != 63 || s.Parts[30].ID != 31 {
		t.Fatalf("a part does not go: %s", tell(s))
	}
	s, ok = Step(s, l[64])
	if !ok || len(s.Parts) != 64 || s.Parts[63] != part(64, "f64", 64, 0) || s.Next != 65 {
		t.Errorf("there is no room: %s", tell(s))
	}
	checkImage(t, s)
}

// TestPlay: P15.4: up to the first record that Step refuses.
func TestPlay(t *testing.T) {
	for _, c := range []struct {
		l    []Rec
		n    int
		want State
	}{
		{nil, 0, State{}},
		{[]Rec{mark(0, 0)}, 0, State{}},
		{[]Rec{{Kind: 5}, skip(0)}, 0, State{}},
		{[]Rec{skip(0), skip(0), skip(1)}, 1, state(1)},
		{[]Rec{begin(3, "a", 5), mark(3, 2), mark(3, 5), begin(4, "b", 0)}, 4, state(5, part(3, "a", 5, 5), part(4, "b", 0, 0))},
		{[]Rec{begin(3, "a", 5), mark(3, 2), mark(3, 1), done(3)}, 2, state(4, part(3, "a", 5, 2))},
		{[]Rec{begin(3, "a", 5), begin(4, "a", 5), done(3)}, 1, state(4, part(3, "a", 5, 0))},
		{[]Rec{begin(3, "a", 5), drop(3), begin(4, "a", 5), done(3)}, 3, state(5, part(4, "a", 5, 0))},
	} {
		if got, n := Play(c.l); n != c.n || tell(got) != tell(c.want) {
			t.Errorf("Play(%+v) = %s, %d, want %s, %d", c.l, tell(got), n, tell(c.want), c.n)
		}
	}
}

// TestImage: P15.4: which records there are, and in which order.
func TestImage(t *testing.T) {
	a, b := part(2, "a", 9, 4), part(5, "b", 3, 0)
	for _, c := range []struct {
		s    State
		want []Rec
	}{
		{State{}, nil},
		{state(1), []Rec{skip(0)}},
		{state(api.MaxTime + 1), []Rec{skip(api.MaxTime)}},
		{state(6, b), []Rec{begin(5, "b", 3)}},
		{state(3, a), []Rec{begin(2, "a", 9), mark(2, 4)}},
		{state(4, a), []Rec{begin(2, "a", 9), mark(2, 4), skip(3)}},
		{state(6, a, b), []Rec{begin(2, "a", 9), mark(2, 4), begin(5, "b", 3)}},
		{state(7, a, b), []Rec{begin(2, "a", 9), mark(2, 4), begin(5, "b", 3), skip(6)}},
	} {
		if got := Image(c.s); !slices.Equal(got, c.want) {
			t.Errorf("Image(%s) = %+v, want %+v", tell(c.s), got, c.want)
		}
		checkImage(t, c.s)
	}
}

// TestStrange: states that no records make, and any numbers, are told without a panic: Step and Image do with them what their words say.
func TestStrange(t *testing.T) {
	nums := []int{math.MinInt, math.MinInt + 1, -1, 0, 1, math.MaxInt - 1, math.MaxInt}
	for _, id := range nums {
		for _, off := range nums {
			for _, next := range nums {
				s := state(next, Part{ID: id, Path: "a", Size: off, Off: off}, Part{ID: id, Path: "b", Size: id})
				for k := range 7 {
					for _, p := range []string{"", "a", "c"} {
						r := Rec{Kind: Kind(k), ID: next, Path: p, Size: off, Off: id}
						got, ok := Step(s, r)
						if !ok && tell(got) != tell(s) {
							t.Fatalf("Step(%s, %+v) = %s", tell(s), r, tell(got))
						}
					}
				}
				Image(s)
			}
		}
	}
	// What stands behind a record that is refused makes no Next.
	s := state(9, part(5, "a", 1, 0), part(4, "b", 1, 0), part(8, "c", 1, 0))
	if l := Image(s); !slices.Equal(l, []Rec{begin(5, "a", 1), begin(4, "b", 1), begin(8, "c", 1), skip(8)}) {
		t.Errorf("Image = %+v", l)
	}
	if l := Image(state(-5, part(2, "a", 1, -1))); !slices.Equal(l, []Rec{begin(2, "a", 1)}) {
		t.Errorf("Image = %+v", l)
	}
}

// TestSame: P15.5: each field of each part, their order, how many there are, and Next.
func TestSame(t *testing.T) {
	a, b := part(2, "a", 9, 4), part(5, "b", 3, 0)
	change := func(f func(*Part)) Part { x := a; f(&x); return x }
	for _, c := range []struct {
		a, b State
		want bool
	}{
		{State{}, State{Parts: []Part{}}, true},
		{state(7, a, b), state(7, part(2, "a", 9, 4), part(5, "b", 3, 0)), true},
		{state(7, a, b), state(8, a, b), false},
		{state(7), state(8), false},
		{state(7, a, b), state(7, b, a), false},
		{state(7, a, b), state(7, a), false},
		{state(7, a), state(7), false},
		{state(7, a), state(7, change(func(x *Part) { x.ID++ })), false},
		{state(7, a), state(7, change(func(x *Part) { x.Path = "A" })), false},
		{state(7, a), state(7, change(func(x *Part) { x.Sum[0]++ })), false},
		{state(7, a), state(7, change(func(x *Part) { x.Sum[31]++ })), false},
		{state(7, a), state(7, change(func(x *Part) { x.Size++ })), false},
		{state(7, a), state(7, change(func(x *Part) { x.Off++ })), false},
	} {
		if Same(c.a, c.b) != c.want || Same(c.b, c.a) != c.want {
			t.Errorf("Same(%s, %s) is not %v", tell(c.a), tell(c.b), c.want)
		}
	}
}

// TestFind: P15.5: the part of this path, or nothing.
func TestFind(t *testing.T) {
	a, b := part(2, "a", 9, 4), part(5, "a/b", 3, 0)
	s := state(7, a, b)
	for p, want := range map[string]Part{"a": a, "a/b": b, "": {}, "b": {}, "A": {}, "a/": {}} {
		if got, is := Find(s, p); got != want || is != (want != Part{}) {
			t.Errorf("Find(%q) = %+v, %v", p, got, is)
		}
	}
	if got, is := Find(State{Next: 9}, "a"); is || got != (Part{}) {
		t.Errorf("Find in nothing = %+v, %v", got, is)
	}
	if got, is := Find(state(1, Part{Path: "z"}), "z"); !is || got != (Part{Path: "z"}) {
		t.Errorf("Find = %+v, %v", got, is)
	}
}

// spoilBytes writes over bytes, and over their spare room.
func spoilBytes(b []byte) {
	b = b[:cap(b)]
	for i := range b {
		b[i] = 0xee
	}
}

// spoilParts writes over parts, and over their spare room.
func spoilParts(l []Part) {
	l = l[:cap(l)]
	for i := range l {
		l[i] = Part{ID: -9, Path: "spoilt"}
	}
}

// TestOwnMemory: an argument is neither changed nor kept; an answer is new memory, and its spare room, too.
func TestOwnMemory(t *testing.T) {
	records := []Rec{begin(0, "a/b", 9), mark(0, 4), begin(3, "c", 2), skip(6)}
	b := put(t, records...)
	room := append(make([]byte, 0, 2*len(b)), b...)
	l, _, _ := Scan(room)
	if !bytes.Equal(room, b) {
		t.Error("Scan changes what it reads")
	}
	spoilBytes(room)
	if !slices.Equal(l, records) {
		t.Errorf("what was scanned hangs on the bytes: %+v", l)
	}
	x := put(t, records[0])
	y := put(t, records[0])
	spoilBytes(x)
	if z := put(t, records[0]); !bytes.Equal(y, z) {
		t.Error("two answers of Put share memory")
	}
	s, _ := Play(records)
	want := tell(s)
	for _, r := range append(small(), begin(7, "d", 1), mark(3, 2), drop(3), done(0), skip(7)) {
		given := State{Parts: append(make([]Part, 0, 9), s.Parts...), Next: s.Next}
		got, _ := Step(given, r)
		told := tell(got)
		if tell(given) != want {
			t.Errorf("Step of %+v changes the state: %s", r, tell(given))
		}
		spoilParts(given.Parts)
		if tell(got) != told {
			t.Errorf("Step of %+v keeps the state", r)
		}
		again, _ := Step(s, r)
		spoilParts(got.Parts)
		if tell(s) != want || tell(again) != told {
			t.Errorf("Step of %+v shares memory", r)
		}
	}
	given := slices.Clone(records)
	played, _ := Play(given)
	if !slices.Equal(given, records) {
		t.Error("Play changes the records")
	}
	clear(given)
	if tell(played) != want {
		t.Error("Play keeps the records")
	}
	image := Image(s)
	told := slices.Clone(image)
	clear(image[:cap(image)])
	if tell(s) != want || !slices.Equal(Image(s), told) {
		t.Error("Image shares memory")
	}
}

// recordsOf are records that bytes say, of few IDs and paths; not all of them may be.
func recordsOf(b []byte) []Rec {
	var l []Rec
	for ; len(b) >= 2; b = b[2:] {
		r := Rec{Kind: Kind(b[0] % 6), ID: int(b[1] % 16)}
		switch r.Kind {
		case Begin:
			r.Path = string('a' + rune(b[0]/6%8))
			r.Size = int(b[1] / 16)
			r.Sum = sum(b[1])
		case Mark:
			r.Off = int(b[1]/16) - 1
		}
		l = append(l, r)
	}
	return l
}

// playAll: P15.3, P15.4, P15.6: records one by one, those that are refused left out, against the plain state; Play of all, and of those that were taken; what is put is scanned and plays the same.
func playAll(t *testing.T, l []Rec) {
	t.Helper()
	plain := plainState{parts: map[int]Part{}}
	var s State
	var taken []Rec
	first := -1
	for i, r := range l {
		before := tell(s)
		got, ok := Step(s, r)
		if want := plain.step(r); ok != want || tell(got) != tell(plain.state()) {
			t.Fatalf("Step(%s, %+v) = %s, %v, want %s, %v", before, r, tell(got), ok, tell(plain.state()), want)
		}
		if !ok && first < 0 {
			first = i
			if x, n := Play(l); n != i || tell(x) != before {
				t.Fatalf("Play(%+v) = %s, %d, want %s, %d", l, tell(x), n, before, i)
			}
		}
		if ok {
			taken = append(taken, r)
		}
		s = got
		checkImage(t, s)
	}
	if x, n := Play(taken); n != len(taken) || !Same(x, s) {
		t.Fatalf("Play(%+v) = %s, %d, want %s", taken, tell(x), n, tell(s))
	}
	scanned, _, err := Scan(put(t, taken...))
	if err != api.OK || !slices.Equal(scanned, taken) {
		t.Fatalf("Scan = %+v, %v, want %+v", scanned, err, taken)
	}
}

// TestPlayChance: P15.3, P15.4, P15.6, at runs by chance.
func TestPlayChance(t *testing.T) {
	x := rand.New(rand.NewSource(18))
	for range 500 {
		b := make([]byte, 2*x.Intn(120))
		x.Read(b)
		playAll(t, recordsOf(b))
	}
}

// FuzzPlay: P15.3, P15.4, P15.6, at any run.
func FuzzPlay(f *testing.F) {
	f.Add([]byte{0, 0x30, 1, 0x40, 2, 0})
	f.Add([]byte{0, 1, 6, 2, 4, 9, 3, 1})
	f.Fuzz(func(t *testing.T, b []byte) {
		playAll(t, recordsOf(b[:min(len(b), 400)]))
	})
}

// FuzzScan: P15.2, at any bytes: as by the words; and what is scanned is put as it stood.
func FuzzScan(f *testing.F) {
	f.Add([]byte{6, 4, 7})
	f.Add(put(f, begin(0, "a/b", 9), mark(0, 4), done(0)))
	f.Add(append(put(f, skip(1<<33)), 0x80, 0, 0x3f))
	f.Fuzz(func(t *testing.T, b []byte) {
		want, wantN, wantErr := plainScan(b)
		l, n, err := Scan(b)
		if err != wantErr || n != wantN || !slices.Equal(l, want) {
			t.Fatalf("Scan(% x) = %+v, %d, %v, want %+v, %d, %v", b, l, n, err, want, wantN, wantErr)
		}
		if !bytes.Equal(put(t, l...), b[:n]) {
			t.Fatalf("% x is put as % x", b[:n], put(t, l...))
		}
	})
}
