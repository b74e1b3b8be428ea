package frame

import (
	"bytes"
	"encoding/hex"
	"math"
	"math/rand"
	"reflect"
	"slices"
	"strings"
	"testing"

	"sumpter/api"
	"sumpter/field"
	"sumpter/ranges"
)

func text(n int) string { return strings.Repeat("x", n) }

func unhex(s string) []byte {
	b, err := hex.DecodeString(strings.ReplaceAll(s, " ", ""))
	if err != nil {
		panic(err)
	}
	return b
}

// singles is n spans of one number, as near to each other as may be, from 0 on.
func singles(n int) []api.Span {
	var l []api.Span
	for i := range n {
		l = append(l, api.Span{From: 2 * i, To: 2 * i})
	}
	return l
}

func noncePart(at int) (n [16]byte) {
	n[at] = 7
	return n
}

// samples has frames with their plain forms and their bytes, as the chapter says them.
var samples = []struct {
	f     Frame
	p     Plain
	bytes string
}{
	{Ping{}, Plain{Kind: 1}, "01"},
	{Ack{Spans: []api.Span{{From: 0, To: 0}}}, Plain{Kind: 2, Spans: []api.Span{{From: 0, To: 0}}}, "02 00 00 00 00"},
	{Ack{Delay: 3, Spans: []api.Span{{From: 2, To: 3}, {From: 7, To: 9}}}, Plain{Kind: 2, N: 3, Spans: []api.Span{{From: 2, To: 3}, {From: 7, To: 9}}}, "02 03 09 01 02 02 01"},
	{Ack{Delay: api.MaxTime, Spans: []api.Span{{From: 0, To: 64}}}, Plain{Kind: 2, N: api.MaxTime, Spans: []api.Span{{From: 0, To: 64}}}, "02 c000010000000000 4040 00 4040"},
	{Stream{}, Plain{Kind: 3}, "03 00 00 00 00"},
	{Stream{ID: 4, Fin: true, Data: "ab"}, Plain{Kind: 3, ID: 4, Fin: true, Text: "ab"}, "03 04 00 01 02 61 62"},
	{Stream{ID: 1 << 20, Off: api.MaxTime, Fin: true}, Plain{Kind: 3, ID: 1 << 20, N: api.MaxTime, Fin: true}, "03 80100000 c000010000000000 01 00"},
	{Stream{ID: 5, Off: 70, Data: "\x00\xff"}, Plain{Kind: 3, ID: 5, N: 70, Text: "\x00\xff"}, "03 05 4046 00 02 00 ff"},
	{Reset{ID: 1, Code: 2, Final: 3}, Plain{Kind: 4, ID: 1, Code: 2, N: 3}, "04 01 03 02"},
	{Reset{}, Plain{Kind: 4}, "04 00 00 00"},
	{Reset{ID: 1 << 20, Code: 1 << 16, Final: api.MaxTime}, Plain{Kind: 4, ID: 1 << 20, Code: 1 << 16, N: api.MaxTime}, "04 80100000 c000010000000000 80010000"},
	{Stop{ID: 1, Code: 2}, Plain{Kind: 5, ID: 1, Code: 2}, "05 01 02"},
	{Stop{ID: 1 << 20, Code: 1 << 16}, Plain{Kind: 5, ID: 1 << 20, Code: 1 << 16}, "05 80100000 80010000"},
	{MaxData{N: 9}, Plain{Kind: 6, N: 9}, "06 09"},
	{MaxData{N: api.MaxTime}, Plain{Kind: 6, N: api.MaxTime}, "06 c000010000000000"},
	{MaxStream{ID: 1, N: 9}, Plain{Kind: 7, ID: 1, N: 9}, "07 01 09"},
	{MaxStream{ID: 63, N: 64}, Plain{Kind: 7, ID: 63, N: 64}, "07 3f 4040"},
	{MaxStreams{N: 3}, Plain{Kind: 8, N: 3}, "08 03"},
	{Hello{}, Plain{Kind: 9}, "09 00000000000000000000000000000000 00"},
	{Hello{Nonce: [16]byte{1, 15: 2}, Text: "t"}, Plain{Kind: 9, Nonce: [16]byte{1, 15: 2}, Text: "t"}, "09 01000000000000000000000000000002 01 74"},
	{Close{Code: 1, Text: "bye"}, Plain{Kind: 10, Code: 1, Text: "bye"}, "0a 01 03 62 79 65"},
	{Close{Code: 1 << 16}, Plain{Kind: 10, Code: 1 << 16}, "0a 80010000 00"},
}

// greatest has the longest frames of the kinds that have a Text or Spans.
func greatest() []Frame {
	return []Frame{
		Stream{ID: 1 << 20, Off: api.MaxTime - 1100, Fin: true, Data: text(1100)},
		Hello{Nonce: noncePart(15), Text: text(256)},
		Close{Code: 1 << 16, Text: text(64)},
		Ack{Delay: api.MaxTime, Spans: singles(64)},
		Ack{Delay: api.MaxTime, Spans: wideSpans()},
	}
}

// wideSpans has as many spans as may be, whose numbers are laid in many bytes.
func wideSpans() []api.Span {
	const step = 1 << 34 // 64 of them are 2^40
	var l []api.Span
	for i := range api.MaxRanges {
		l = append(l, api.Span{From: i*step + step/2 + 1, To: (i + 1) * step})
	}
	return l
}

// partsOf has the parts of each kind by letters, in the order in which they are laid: i the ID, n N, f Fin, c Code, o Nonce, t Text, s Spans.
var partsOf = map[uint8]string{1: "", 2: "ns", 3: "inft", 4: "inc", 5: "ic", 6: "n", 7: "in", 8: "n", 9: "ot", 10: "ct"}

var textOf = map[uint8]int{3: 1100, 9: 256, 10: 64}

// plainCheck is P18.2, word by word.
func plainCheck(p Plain) api.Errno {
	parts, is := partsOf[p.Kind]
	if !is {
		return api.ErrKind
	}
	bare := p
	for _, x := range parts {
		switch x {
		case 'i':
			bare.ID = 0
		case 'n':
			bare.N = 0
		case 'f':
			bare.Fin = false
		case 'c':
			bare.Code = 0
		case 'o':
			bare.Nonce = [16]byte{}
		case 't':
			bare.Text = ""
		case 's':
			bare.Spans = nil
		}
	}
	bare.Kind = 0
	if len(bare.Spans) == 0 {
		bare.Spans = nil
	}
	if !reflect.DeepEqual(bare, Plain{}) {
		return api.ErrForm
	}
	if p.ID < 0 || p.ID > 1048576 || p.Code < 0 || p.Code > 65536 || p.N < 0 || p.N > 1099511627776 {
		return api.ErrRange
	}
	if p.Kind == 2 {
		if err := ranges.Check(p.Spans); err != api.OK {
			return err
		}
	}
	if most, is := textOf[p.Kind]; is && len(p.Text) > most {
		return api.ErrLong
	}
	if p.Kind == 3 && p.N+len(p.Text) > 1099511627776 {
		return api.ErrRange
	}
	return api.OK
}

// plainNum reads a number: its error is told ahead of what it is.
func plainNum(b []byte, most int) (n, used int, err api.Errno) {
	if len(b) == 0 {
		return 0, 0, api.ErrCut
	}
	width := 1 << (b[0] >> 6)
	if len(b) < width {
		return 0, 0, api.ErrCut
	}
	n = int(b[0] & 63)
	for _, x := range b[1:width] {
		n = n<<8 | int(x)
	}
	if n > most || !bytes.Equal(field.Num(n), b[:width]) {
		return 0, 0, api.ErrForm
	}
	return n, width, api.OK
}

// plainGet is P18.3, Get, part by part from the left.
func plainGet(b []byte) (Plain, int, api.Errno) {
	if len(b) == 0 {
		return Plain{}, 0, api.ErrCut
	}
	parts, is := partsOf[b[0]]
	if !is {
		return Plain{}, 0, api.ErrKind
	}
	p := Plain{Kind: b[0]}
	at := 1
	for _, x := range parts {
		var n int
		var err api.Errno
		switch x {
		case 'i':
			p.ID, n, err = plainNum(b[at:], 1048576)
		case 'n':
			p.N, n, err = plainNum(b[at:], 1099511627776)
		case 'c':
			p.Code, n, err = plainNum(b[at:], 65536)
		case 'f':
			n = 1
			if at == len(b) {
				err = api.ErrCut
			} else if b[at] > 1 {
				err = api.ErrForm
			} else {
				p.Fin = b[at] == 1
			}
		case 'o':
			n = 16
			if len(b)-at < 16 {
				err = api.ErrCut
			} else {
				p.Nonce = [16]byte(b[at:])
			}
		case 't':
			var long int
			if long, n, err = plainNum(b[at:], textOf[p.Kind]); err == api.OK && len(b)-at-n < long {
				err = api.ErrCut
			}
			if err == api.OK {
				p.Text = string(b[at+n : at+n+long])
				n += long
			}
		case 's':
			p.Spans, n, err = ranges.Get(b[at:])
		}
		if err != api.OK {
			return Plain{}, 0, err
		}
		at += n
	}
	if err := plainCheck(p); err != api.OK {
		return Plain{}, 0, err
	}
	return p, at, api.OK
}

// holdGet holds Get against the plain one.
func holdGet(t *testing.T, b []byte) {
	t.Helper()
	p, n, err := plainGet(b)
	f, used, got := Get(b)
	if used != n || got != err || (f == nil) != (err != api.OK) || !reflect.DeepEqual(Flat(f), p) {
		t.Fatalf("Get(% x) = %v, %d, %v, want %v, %d, %v", b[:min(len(b), 40)], f, used, got, p, n, err)
	}
}

// TestExample: the chapter's example.
func TestExample(t *testing.T) {
	b, err := Put(Stream{ID: 4, Off: 0, Fin: true, Data: "ab"})
	if want := []byte{0x03, 0x04, 0x00, 0x01, 0x02, 0x61, 0x62}; err != api.OK || !bytes.Equal(b, want) {
		t.Errorf("Put = % x, %v", b, err)
	}
	if f, n, err := Get([]byte{0}); f != nil || n != 0 || err != api.ErrKind {
		t.Errorf("Get(00) = %v, %d, %v", f, n, err)
	}
	if f, n, err := Get([]byte{3, 4}); f != nil || n != 0 || err != api.ErrCut {
		t.Errorf("Get(03 04) = %v, %d, %v", f, n, err)
	}
}

// TestFlatOf: P18.1 of frames and their plain forms.
func TestFlatOf(t *testing.T) {
	for _, c := range samples {
		if p := Flat(c.f); !reflect.DeepEqual(p, c.p) {
			t.Errorf("Flat(%v) = %v, want %v", c.f, p, c.p)
		}
		if f, err := Of(c.p); err != api.OK || !reflect.DeepEqual(f, c.f) {
			t.Errorf("Of(%v) = %v, %v, want %v", c.p, f, err, c.f)
		}
	}
}

// TestFlatTakesAll: P18.1, a frame that may not be has a plain form, too; Of alone refuses it.
func TestFlatTakesAll(t *testing.T) {
	for _, c := range []struct {
		f Frame
		p Plain
	}{
		{Ack{Delay: -1}, Plain{Kind: 2, N: -1}},
		{Ack{Spans: []api.Span{{From: 9, To: 3}}}, Plain{Kind: 2, Spans: []api.Span{{From: 9, To: 3}}}},
		{Stream{ID: math.MinInt, Off: math.MaxInt, Data: text(2000)}, Plain{Kind: 3, ID: math.MinInt, N: math.MaxInt, Text: text(2000)}},
		{Reset{-1, -2, -3}, Plain{Kind: 4, ID: -1, Code: -2, N: -3}},
		{Stop{-1, -2}, Plain{Kind: 5, ID: -1, Code: -2}},
		{MaxData{-1}, Plain{Kind: 6, N: -1}},
		{MaxStream{-1, -2}, Plain{Kind: 7, ID: -1, N: -2}},
		{MaxStreams{-1}, Plain{Kind: 8, N: -1}},
		{Hello{Text: text(300)}, Plain{Kind: 9, Text: text(300)}},
		{Close{-1, text(100)}, Plain{Kind: 10, Code: -1, Text: text(100)}},
	} {
		if p := Flat(c.f); !reflect.DeepEqual(p, c.p) {
			t.Errorf("Flat(%v) = %v, want %v", c.f, p, c.p)
		}
		want := plainCheck(c.p)
		if f, err := Of(c.p); f != nil || err != want || err == api.OK {
			t.Errorf("Of(%v) = %v, %v, want %v", c.p, f, err, want)
		}
		if b, err := Put(c.f); b != nil || err != want {
			t.Errorf("Put(%v) = % x, %v, want %v", c.f, b, err, want)
		}
	}
}

// stranger stands behind the interface, but is no frame of the kinds.
type stranger struct{ Frame }

// TestNil: nil, and what is none of the kinds.
func TestNil(t *testing.T) {
	if p := Flat(nil); !reflect.DeepEqual(p, Plain{}) {
		t.Errorf("Flat(nil) = %v", p)
	}
	if b, err := Put(nil); b != nil || err != api.ErrNil {
		t.Errorf("Put(nil) = % x, %v", b, err)
	}
	if s, err := StreamOf(nil); s != (Stream{}) || err != api.ErrKind {
		t.Errorf("StreamOf(nil) = %v, %v", s, err)
	}
	if Asks(nil) {
		t.Error("nil asks")
	}
	for _, f := range []Frame{(*Stream)(nil), &Stream{ID: 4}, (*Ack)(nil), stranger{}, stranger{Stream{ID: 4}}, &stranger{}} {
		if p := Flat(f); !reflect.DeepEqual(p, Plain{}) {
			t.Errorf("Flat(%T) = %v", f, p)
		}
		if b, err := Put(f); b != nil || err != api.ErrKind {
			t.Errorf("Put(%T) = % x, %v", f, b, err)
		}
		if s, err := StreamOf(f); s != (Stream{}) || err != api.ErrKind {
			t.Errorf("StreamOf(%T) = %v, %v", f, s, err)
		}
		Asks(f) // must not panic
	}
}

// TestCheckErrors: P18.2, each error, and which one where several apply.
func TestCheckErrors(t *testing.T) {
	falling := []api.Span{{From: 5, To: 6}, {From: 1, To: 2}}
	for _, c := range []struct {
		p    Plain
		want api.Errno
	}{
		{Plain{}, api.ErrKind},
		{Plain{Kind: 11}, api.ErrKind},
		{Plain{Kind: 255, ID: -1}, api.ErrKind},
		{Plain{Kind: 0, Text: "x"}, api.ErrKind},
		{Plain{Kind: 1, N: 1}, api.ErrForm},
		{Plain{Kind: 1, N: -1}, api.ErrForm},
		{Plain{Kind: 1, Fin: true}, api.ErrForm},
		{Plain{Kind: 1, Nonce: noncePart(15)}, api.ErrForm},
		{Plain{Kind: 1, Spans: []api.Span{}}, api.OK},
		{Plain{Kind: 1, Spans: []api.Span{{}}}, api.ErrForm},
		{Plain{Kind: 3, ID: -1, Code: 1}, api.ErrForm},
		{Plain{Kind: 3, Text: text(1101), Spans: singles(65)}, api.ErrForm},
		{Plain{Kind: 6, ID: 1, N: -1}, api.ErrForm},
		{Plain{Kind: 10, Code: 70000, Text: text(65), N: 1}, api.ErrForm},
		{Plain{Kind: 6, N: -1}, api.ErrRange},
		{Plain{Kind: 6, N: api.MaxTime}, api.OK},
		{Plain{Kind: 6, N: api.MaxTime + 1}, api.ErrRange},
		{Plain{Kind: 6, N: math.MaxInt}, api.ErrRange},
		{Plain{Kind: 5, ID: 1<<20 + 1}, api.ErrRange},
		{Plain{Kind: 5, ID: -1}, api.ErrRange},
		{Plain{Kind: 5, ID: 1 << 20, Code: 1 << 16}, api.OK},
		{Plain{Kind: 5, Code: 1<<16 + 1}, api.ErrRange},
		{Plain{Kind: 5, Code: -1}, api.ErrRange},
		{Plain{Kind: 2}, api.ErrForm},
		{Plain{Kind: 2, N: -1}, api.ErrRange},
		{Plain{Kind: 2, N: -1, Spans: singles(65)}, api.ErrRange},
		{Plain{Kind: 2, Spans: singles(65)}, api.ErrLong},
		{Plain{Kind: 2, Spans: singles(64)}, api.OK},
		{Plain{Kind: 2, Spans: falling}, api.ErrForm},
		{Plain{Kind: 3, Text: text(1100)}, api.OK},
		{Plain{Kind: 3, Text: text(1101)}, api.ErrLong},
		{Plain{Kind: 3, N: api.MaxTime, Text: text(1101)}, api.ErrLong},
		{Plain{Kind: 3, N: -1, Text: text(1101)}, api.ErrRange},
		{Plain{Kind: 3, N: api.MaxTime, Text: "x"}, api.ErrRange},
		{Plain{Kind: 3, N: api.MaxTime - 1, Text: "x"}, api.OK},
		{Plain{Kind: 3, N: api.MaxTime - 1, Text: "xy"}, api.ErrRange},
		{Plain{Kind: 9, Text: text(256)}, api.OK},
		{Plain{Kind: 9, Text: text(257)}, api.ErrLong},
		{Plain{Kind: 10, Text: text(64)}, api.OK},
		{Plain{Kind: 10, Text: text(65)}, api.ErrLong},
		{Plain{Kind: 10, Code: 1<<16 + 1, Text: text(65)}, api.ErrRange},
	} {
		if err := Check(c.p); err != c.want {
			t.Errorf("Check(%v) = %v, want %v", c.p, err, c.want)
		}
	}
}

// TestCheckAll: P18.2 and P18.1 of each kind with each choice of its parts' edges.
func TestCheckAll(t *testing.T) {
	var p Plain
	lists := [][]api.Span{nil, {}, {{From: 0, To: 0}}, {{From: 1, To: 0}}, singles(65)}
	texts := []string{"", "x", text(64), text(65), text(256), text(257), text(1100), text(1101)}
	for _, p.Kind = range []uint8{0, 1, 2, 3, 4, 5, 6, 7, 8, 9, 10, 11, 128, 255} {
		for _, p.ID = range []int{-1, 0, 1, 1 << 20, 1<<20 + 1} {
			for _, p.N = range []int{-1, 0, 1, api.MaxTime - 64, api.MaxTime, api.MaxTime + 1} {
				for _, p.Code = range []int{-1, 0, 1 << 16, 1<<16 + 1} {
					for _, p.Text = range texts {
						for _, p.Spans = range lists {
							for bits := range 4 {
								p.Fin = bits&1 == 1
								p.Nonce = [16]byte{15: byte(bits >> 1)}
								holdCheck(t, p)
							}
						}
					}
				}
			}
		}
	}
}

// holdCheck holds Check and Of against the plain Check.
func holdCheck(t *testing.T, p Plain) {
	want := plainCheck(p)
	if err := Check(p); err != want {
		t.Fatalf("Check(%v) = %v, want %v", p, err, want)
	}
	f, err := Of(p)
	if err != want || (f == nil) != (want != api.OK) {
		t.Fatalf("Of(%v) = %v, %v, want %v", p, f, err, want)
	}
	if want == api.OK {
		if len(p.Spans) == 0 {
			p.Spans = nil
		}
		if got := Flat(f); !reflect.DeepEqual(got, p) {
			t.Fatalf("Flat(Of(%v)) = %v", p, got)
		}
	}
}

// TestPut: P18.3, the bytes of frames, and what they are read to.
func TestPut(t *testing.T) {
	for _, c := range samples {
		want := unhex(c.bytes)
		if b, err := Put(c.f); err != api.OK || !bytes.Equal(b, want) {
			t.Errorf("Put(%v) = % x, %v, want % x", c.f, b, err, want)
		}
		if f, n, err := Get(want); err != api.OK || n != len(want) || !reflect.DeepEqual(f, c.f) {
			t.Errorf("Get(% x) = %v, %d, %v", want, f, n, err)
		}
	}
}

// TestGetErrors: P18.3, each error, and which one is met first.
func TestGetErrors(t *testing.T) {
	for _, c := range []struct {
		bytes string
		want  api.Errno
	}{
		{"", api.ErrCut},
		{"00", api.ErrKind},
		{"0b", api.ErrKind},
		{"40", api.ErrKind},
		{"ff ff", api.ErrKind},
		{"03", api.ErrCut},
		{"03 40", api.ErrCut},
		{"03 4001", api.ErrForm},
		{"03 80100000", api.ErrCut},
		{"03 80100001", api.ErrForm},
		{"03 801000", api.ErrCut},
		{"03 ffffffffffffff", api.ErrCut},
		{"03 ffffffffffffffff", api.ErrForm},
		{"03 04 c000010000000001", api.ErrForm},
		{"03 04 c0000100000000", api.ErrCut},
		{"03 04 00", api.ErrCut},
		{"03 04 00 02", api.ErrForm},
		{"03 04 00 40", api.ErrForm},
		{"03 04 00 ff 02 61 62", api.ErrForm},
		{"03 04 00 01", api.ErrCut},
		{"03 04 00 01 02 61", api.ErrCut},
		{"03 04 00 01 4002 61 62", api.ErrForm},
		{"03 04 00 01 444c", api.ErrCut},
		{"03 04 00 01 444d", api.ErrForm},
		{"03 04 00 01 44", api.ErrCut},
		{"03 04 c000010000000000 01 01", api.ErrCut},
		{"03 04 c000010000000000 01 01 61", api.ErrRange},
		{"03 04 c000010000000000 02 01 61", api.ErrForm},
		{"03 04 c00000ffffffffff 00 01 61", api.OK},
		{"04 00 00 80010001", api.ErrForm},
		{"04 00 00 800100", api.ErrCut},
		{"04 4000 00", api.ErrForm},
		{"04 00 4000 80010001", api.ErrForm},
		{"05 00", api.ErrCut},
		{"05 00 80010001", api.ErrForm},
		{"05 80100001", api.ErrForm},
		{"06", api.ErrCut},
		{"06 4001", api.ErrForm},
		{"06 c000010000000001", api.ErrForm},
		{"07 01", api.ErrCut},
		{"08 c000010000000001", api.ErrForm},
		{"09", api.ErrCut},
		{"09 000000000000000000000000000000", api.ErrCut},
		{"09 00000000000000000000000000000000", api.ErrCut},
		{"09 00000000000000000000000000000000 4100", api.ErrCut},
		{"09 00000000000000000000000000000000 4101", api.ErrForm},
		{"0a", api.ErrCut},
		{"0a 80010001", api.ErrForm},
		{"0a 00 4040", api.ErrCut},
		{"0a 00 4041", api.ErrForm},
		{"02", api.ErrCut},
		{"02 00", api.ErrCut},
		{"02 4000", api.ErrForm},
		{"02 c000010000000001", api.ErrForm},
		{"02 00 09 00", api.ErrCut},
		{"02 00 09 00 0a", api.ErrForm},
		{"02 00 c000010000000001", api.ErrForm},
		{"02 00 4100 4040", api.ErrForm},
	} {
		b := unhex(c.bytes)
		f, n, err := Get(b)
		if err != c.want || err != api.OK && (f != nil || n != 0) {
			t.Errorf("Get(%s) = %v, %d, %v, want %v", c.bytes, f, n, err, c.want)
		}
		holdGet(t, b)
		if l, got := All(b); len(b) > 0 && got != c.want || err != api.OK && l != nil {
			t.Errorf("All(%s) = %v, %v, want %v", c.bytes, l, got, c.want)
		}
	}
}

// TestEveryShortText: P18.3, Get of all short texts of such bytes as begin a kind, a number of each width, or a length, held against the plain Get.
func TestEveryShortText(t *testing.T) {
	few := []byte{0x00, 0x01, 0x02, 0x3f, 0x40, 0x44, 0x80, 0xc0, 0xff}
	var grow func(b []byte, left int)
	grow = func(b []byte, left int) {
		holdGet(t, b)
		if left == 0 {
			return
		}
		for _, x := range few {
			grow(append(b, x), left-1)
		}
	}
	holdGet(t, nil)
	for kind := range 256 {
		grow([]byte{byte(kind)}, 2)
	}
	for kind := range 12 {
		grow([]byte{byte(kind)}, 5)
	}
}

// byChance is a frame of any kind, with small and with great parts.
func byChance(r *rand.Rand) Frame {
	num := func(most int) int {
		n := r.Intn(most + 1)
		return n >> r.Intn(41)
	}
	chars := func(most int) string {
		b := make([]byte, r.Intn(most+1)>>r.Intn(11))
		r.Read(b)
		return string(b)
	}
	id, n, code := num(1<<20), num(api.MaxTime-1100), num(1<<16)
	switch r.Intn(10) {
	case 0:
		return Ping{}
	case 1:
		s := ranges.New()
		for range 1 + r.Intn(64) {
			from := num(api.MaxTime)
			s.Add(from, min(from+num(1<<30), api.MaxTime))
		}
		return Ack{Delay: n, Spans: s.Spans()}
	case 2:
		return Stream{ID: id, Off: n, Fin: r.Intn(2) == 1, Data: chars(1100)}
	case 3:
		return Reset{ID: id, Code: code, Final: n}
	case 4:
		return Stop{ID: id, Code: code}
	case 5:
		return MaxData{N: n}
	case 6:
		return MaxStream{ID: id, N: n}
	case 7:
		return MaxStreams{N: n}
	case 8:
		h := Hello{Text: chars(256)}
		r.Read(h.Nonce[:])
		return h
	}
	return Close{Code: code, Text: chars(64)}
}

func mustPut(t *testing.T, f Frame) []byte {
	t.Helper()
	b, err := Put(f)
	if err != api.OK {
		t.Fatalf("Put(%v) = %v", f, err)
	}
	return b
}

// TestGotAsPut: P18.5, whatever stands behind; and cut off anywhere it is ErrCut.
func TestGotAsPut(t *testing.T) {
	r := rand.New(rand.NewSource(18))
	l := greatest()
	for range 1500 {
		l = append(l, byChance(r))
	}
	for _, f := range l {
		b := mustPut(t, f)
		tail := make([]byte, r.Intn(3000))
		r.Read(tail)
		for _, behind := range [][]byte{nil, {0}, {0xff}, b, tail} {
			got, n, err := Get(append(b[:len(b):len(b)], behind...))
			if err != api.OK || n != len(b) || !reflect.DeepEqual(got, f) {
				t.Fatalf("%v is got as %v, %d, %v", f, got, n, err)
			}
		}
		for cut := range b {
			if got, n, err := Get(b[:cut]); got != nil || n != 0 || err != api.ErrCut {
				t.Fatalf("%v, cut at %d: %v, %d, %v", f, cut, got, n, err)
			}
		}
	}
}

// TestSpoilt: P18.3, frames in which bytes are others, held against the plain Get.
func TestSpoilt(t *testing.T) {
	r := rand.New(rand.NewSource(5))
	for range 20000 {
		b := mustPut(t, byChance(r))
		if len(b) > 40 {
			b = append(b, 0)
		}
		for range 1 + r.Intn(3) {
			b[r.Intn(min(len(b), 24))] = byte(r.Intn(256))
		}
		holdGet(t, b)
	}
}

// TestAll: P18.3, frames one behind the other.
func TestAll(t *testing.T) {
	if l, err := All(nil); l != nil || err != api.OK {
		t.Errorf("All(nil) = %v, %v", l, err)
	}
	if l, err := All([]byte{}); len(l) != 0 || err != api.OK {
		t.Errorf("All of nothing = %v, %v", l, err)
	}
	r := rand.New(rand.NewSource(9))
	for range 200 {
		var want []Frame
		var b []byte
		ends := []int{0}
		for range 1 + r.Intn(8) {
			f := byChance(r)
			want = append(want, f)
			b = append(b, mustPut(t, f)...)
			ends = append(ends, len(b))
		}
		if got, err := All(b); err != api.OK || !reflect.DeepEqual(got, want) {
			t.Fatalf("All = %v, %v, want %v", got, err, want)
		}
		for _, bad := range []struct {
			bytes string
			want  api.Errno
		}{{"00", api.ErrKind}, {"03 04", api.ErrCut}, {"06 4001", api.ErrForm}, {"03 04 c000010000000000 01 01 61 00", api.ErrRange}} {
			if got, err := All(append(b[:len(b):len(b)], unhex(bad.bytes)...)); got != nil || err != bad.want {
				t.Fatalf("All with %s behind = %v, %v", bad.bytes, got, err)
			}
		}
		cut := r.Intn(len(b))
		got, err := All(b[:cut])
		if at := slices.Index(ends, cut); at >= 0 {
			if err != api.OK || len(got) != at {
				t.Fatalf("All of %d whole frames = %v, %v", at, got, err)
			}
		} else if got != nil || err != api.ErrCut {
			t.Fatalf("All, cut = %v, %v", got, err)
		}
	}
}

// TestAllFirstError: P18.3, the first error, whatever is wrong behind it.
func TestAllFirstError(t *testing.T) {
	for _, c := range []struct {
		bytes string
		want  api.Errno
	}{
		{"01 00 06 4001", api.ErrKind},
		{"01 06 4001 00", api.ErrForm},
		{"06 4001 03 04", api.ErrForm},
		{"03 04 c000010000000000 01 01 61 00 03", api.ErrRange},
		{"01 01 03 04 00 01 02 61", api.ErrCut},
	} {
		if l, err := All(unhex(c.bytes)); l != nil || err != c.want {
			t.Errorf("All(%s) = %v, %v, want %v", c.bytes, l, err, c.want)
		}
	}
}

// TestAllLong: All of many bytes takes no longer for each frame than of few.
func TestAllLong(t *testing.T) {
	const n = 100000
	b := bytes.Repeat(unhex("01 02 03 09 01 02 02 01 03 04 00 01 02 61 62"), n)
	l, err := All(b)
	if err != api.OK || len(l) != 3*n || !reflect.DeepEqual(l[3*n-1], Frame(Stream{ID: 4, Fin: true, Data: "ab"})) {
		t.Errorf("All = %d frames, %v", len(l), err)
	}
}

// TestStreamOf: P18.4, a Stream as it is, even one that may not be; nothing of the others.
func TestStreamOf(t *testing.T) {
	for _, want := range []Stream{{}, {ID: 4, Off: 70, Fin: true, Data: "ab"}, {ID: -1, Off: -1, Data: text(2000)}} {
		if s, err := StreamOf(want); s != want || err != api.OK {
			t.Errorf("StreamOf(%v) = %v, %v", want, s, err)
		}
	}
	for _, c := range samples {
		s, err := StreamOf(c.f)
		if want, is := c.f.(Stream); is && (s != want || err != api.OK) || !is && (s != Stream{} || err != api.ErrKind) {
			t.Errorf("StreamOf(%v) = %v, %v", c.f, s, err)
		}
	}
}

// TestAsks: P18.4, all but Ack and Close, whether they may be or not.
func TestAsks(t *testing.T) {
	for _, c := range []struct {
		f    Frame
		want bool
	}{
		{Ping{}, true}, {Ack{}, false}, {Stream{}, true}, {Reset{}, true}, {Stop{}, true}, {MaxData{}, true}, {MaxStream{}, true}, {MaxStreams{}, true}, {Hello{}, true}, {Close{}, false},
		{Ack{Delay: 3, Spans: singles(2)}, false}, {Close{Code: 3, Text: "x"}, false}, {Stream{ID: -1}, true},
	} {
		if Asks(c.f) != c.want {
			t.Errorf("Asks(%v) is not %v", c.f, c.want)
		}
	}
}

// TestSize: P18.4, as many bytes as Put lays, 0 of a Stream that may not be.
func TestSize(t *testing.T) {
	for _, c := range []struct {
		s    Stream
		want int
	}{
		{Stream{}, 5},
		{Stream{ID: 4, Fin: true, Data: "ab"}, 7},
		{Stream{ID: 4, Off: 70, Fin: true, Data: "ab"}, 8},
		{Stream{ID: 63, Off: 63, Data: text(63)}, 68},
		{Stream{ID: 64, Off: 64, Data: text(64)}, 72},
		{Stream{ID: 1 << 20, Off: api.MaxTime - 1100, Data: text(1100)}, 1116},
		{Stream{ID: -1}, 0},
		{Stream{ID: 1<<20 + 1}, 0},
		{Stream{Off: -1}, 0},
		{Stream{Off: api.MaxTime + 1}, 0},
		{Stream{Off: api.MaxTime, Data: "x"}, 0},
		{Stream{Data: text(1101)}, 0},
	} {
		if n := Size(c.s); n != c.want {
			t.Errorf("Size of ID %d, Off %d, %d bytes = %d, want %d", c.s.ID, c.s.Off, len(c.s.Data), n, c.want)
		}
	}
	r := rand.New(rand.NewSource(4))
	for range 3000 {
		if s, is := byChance(r).(Stream); is && Size(s) != len(mustPut(t, s)) {
			t.Errorf("Size(%v) = %d", s, Size(s))
		}
	}
}

// spoilSpans changes spans up to the end of their room.
func spoilSpans(l []api.Span) {
	for i := range l[:cap(l)] {
		l[:cap(l)][i] = api.Span{From: -7, To: -7}
	}
}

// spoilBytes changes bytes up to the end of their room.
func spoilBytes(b []byte) {
	for i := range b[:cap(b)] {
		b[:cap(b)][i] ^= 0xff
	}
}

// TestNewMemory: answers share nothing with arguments, nor with each other.
func TestNewMemory(t *testing.T) {
	own := []api.Span{{From: 2, To: 3}, {From: 7, To: 9}}
	want := slices.Clone(own)
	f := Ack{Delay: 3, Spans: own}

	p := Flat(f)
	spoilSpans(p.Spans)
	spoilSpans(Flat(f).Spans)
	if !slices.Equal(own, want) {
		t.Fatal("Flat shares the frame's spans")
	}

	p = Flat(f)
	g, _ := Of(p)
	spoilSpans(p.Spans)
	if !reflect.DeepEqual(g, Frame(f)) {
		t.Error("Of shares the plain form's spans")
	}
	p = Flat(f)
	g, _ = Of(p)
	spoilSpans(g.(Ack).Spans)
	if !slices.Equal(p.Spans, want) {
		t.Error("the plain form shares the spans of Of")
	}

	b := mustPut(t, f)
	spoilBytes(b)
	if again := mustPut(t, f); !bytes.Equal(again, unhex("02 03 09 01 02 02 01")) {
		t.Errorf("Put again = % x", again)
	}

	for _, c := range samples {
		b := unhex(c.bytes)
		got, _, _ := Get(b)
		l, _ := All(b)
		if !bytes.Equal(b, unhex(c.bytes)) {
			t.Errorf("Get changes its argument: % x", b)
		}
		spoilBytes(b)
		if !reflect.DeepEqual(got, c.f) || len(l) != 1 || !reflect.DeepEqual(l[0], c.f) {
			t.Errorf("%v is %v, %v, when its bytes change", c.f, got, l)
		}
	}
	l, _ := All(unhex("02 03 09 01 02 02 01 02 03 09 01 02 02 01"))
	spoilSpans(l[0].(Ack).Spans)
	if !reflect.DeepEqual(l[1], Frame(f)) {
		t.Error("frames of one answer share spans")
	}
}

// TestGetTakesFew: what stands behind a frame costs nothing.
func TestGetTakesFew(t *testing.T) {
	b := append(unhex("02 03 09 01 02 02 01"), make([]byte, 1<<24)...)
	for range 2000 {
		if _, n, err := Get(b); n != 7 || err != api.OK {
			t.Fatal(n, err)
		}
	}
}
