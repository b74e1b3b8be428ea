package packet

import (
	"bytes"
	"encoding/hex"
	"fmt"
	"math"
	"math/rand"
	"reflect"
	"slices"
	"strings"
	"testing"

	"sumpter/api"
	"sumpter/field"
	"sumpter/frame"
	"sumpter/mac"
)

var key = api.Hash{7}

func unhex(s string) []byte {
	b, err := hex.DecodeString(strings.ReplaceAll(s, " ", ""))
	if err != nil {
		panic(err)
	}
	return b
}

// many is n bytes that are not all the same.
func many(n int) []byte {
	b := make([]byte, n)
	for i := range b {
		b[i] = byte(3*i + 1)
	}
	return b
}

// pings is the body of n Pings, or a body of n bytes.
func pings(n int) []byte { return bytes.Repeat([]byte{1}, n) }

// edges has the least and the greatest number of each width that a head may have, with that width.
var edges = []struct{ n, width int }{
	{0, 1}, {63, 1}, {64, 2}, {16383, 2}, {16384, 4}, {1<<30 - 1, 4}, {1 << 30, 8}, {api.MaxTime, 8},
}

// wrongHeads has each way in which a head may not be, at its edge and far away from it.
var wrongHeads = []Packet{
	{Kind: 2}, {Kind: 3}, {Kind: 128}, {Kind: 255},
	{Conn: -1}, {Conn: math.MinInt}, {Conn: api.MaxTime + 1}, {Conn: api.MaxVar}, {Conn: math.MaxInt},
	{Num: -1}, {Num: math.MinInt}, {Num: api.MaxTime + 1}, {Num: api.MaxVar}, {Num: math.MaxInt},
	{Kind: 1, Conn: 5, Num: -1}, {Kind: 1, Conn: -1, Num: 3}, {Kind: 2, Conn: 5, Num: 3}, {Kind: 2, Conn: -1, Num: -1},
}

func plainHead(p Packet) []byte {
	return slices.Concat([]byte{p.Kind}, field.Num(p.Conn), field.Num(p.Num))
}

// plainNum reads a number of a head.
func plainNum(b []byte) (n, used int, err api.Errno) {
	if len(b) == 0 {
		return 0, 0, api.ErrCut
	}
	width := 1 << (b[0] >> 6)
	if len(b) < width {
		return 0, 0, api.ErrCut
	}
	n = int(b[0] & 63)
	for _, x := range b[1:width] {
		n = n<<8 | int(x)
	}
	if n > 1099511627776 || !bytes.Equal(field.Num(n), b[:width]) {
		return 0, 0, api.ErrForm
	}
	return n, width, api.OK
}

// plainPeek is P19.2's Peek, from the left, and where the head ends.
func plainPeek(b []byte) (Packet, int, api.Errno) {
	if len(b) > 1200 {
		return Packet{}, 0, api.ErrLong
	}
	if len(b) == 0 {
		return Packet{}, 0, api.ErrCut
	}
	if b[0] > 1 {
		return Packet{}, 0, api.ErrForm
	}
	conn, n, err := plainNum(b[1:])
	if err != api.OK {
		return Packet{}, 0, err
	}
	num, m, err := plainNum(b[1+n:])
	if err != api.OK {
		return Packet{}, 0, err
	}
	at := 1 + n + m
	if len(b)-at < 16 {
		return Packet{}, 0, api.ErrCut
	}
	return Packet{Kind: b[0], Conn: conn, Num: num, Body: b[at : len(b)-16]}, at, api.OK
}

func same(a, b Packet) bool {
	return a.Kind == b.Kind && a.Conn == b.Conn && a.Num == b.Num && bytes.Equal(a.Body, b.Body)
}

func isZero(p Packet) bool {
	return p.Kind == 0 && p.Conn == 0 && p.Num == 0 && p.Body == nil
}

// holdPeek holds Peek against the plain one.
func holdPeek(t *testing.T, b []byte) {
	t.Helper()
	want, _, wantErr := plainPeek(b)
	got, err := Peek(b)
	if err != wantErr || !same(got, want) || err != api.OK && !isZero(got) {
		t.Fatalf("Peek(%x) = %v, %d, want %v, %d", b[:min(len(b), 40)], got, int(err), want, int(wantErr))
	}
}

// holdOpen holds Open against its words.
func holdOpen(t *testing.T, key api.Hash, b []byte) {
	t.Helper()
	want, at, wantErr := plainPeek(b)
	var wantFrames []frame.Frame
	if wantErr == api.OK {
		if _, wantErr = mac.Open(key, b[:at], b[at:]); wantErr == api.OK {
			wantFrames, wantErr = frame.All(want.Body)
		}
	}
	if wantErr != api.OK {
		want = Packet{}
	}
	got, frames, err := Open(key, b)
	if err != wantErr || !same(got, want) || !reflect.DeepEqual(frames, wantFrames) || err != api.OK && !isZero(got) {
		t.Fatalf("Open(%x) = %v, %v, %d, want %v, %v, %d", b[:min(len(b), 40)], got, frames, int(err), want, wantFrames, int(wantErr))
	}
}

// refused tells whether Open answers an error and nothing else.
func refused(t *testing.T, key api.Hash, b []byte, want api.Errno) {
	t.Helper()
	if got, frames, err := Open(key, b); err != want || !isZero(got) || frames != nil {
		t.Errorf("Open(%x) = %v, %v, %d, want nothing, %d", b[:min(len(b), 40)], got, frames, int(err), int(want))
	}
}

func seal(t *testing.T, key api.Hash, p Packet) []byte {
	t.Helper()
	b, err := Seal(key, p)
	if err != api.OK {
		t.Fatalf("Seal(%v) = %d", p, int(err))
	}
	return b
}

func TestExample(t *testing.T) {
	p := Packet{Kind: Data, Conn: 5, Num: 3, Body: []byte{1}}
	b := seal(t, key, p)
	if len(b) != 20 || !bytes.Equal(b[:4], unhex("01 05 03 01")) {
		t.Errorf("Seal = %x", b)
	}
	got, frames, err := Open(key, b)
	if err != api.OK || !same(got, p) || !reflect.DeepEqual(frames, []frame.Frame{frame.Ping{}}) {
		t.Errorf("Open = %v, %v, %d", got, frames, int(err))
	}
	if n := Room(p); n != 1181 {
		t.Errorf("Room = %d", n)
	}
}

func TestKinds(t *testing.T) {
	if Hello != 0 || Data != 1 {
		t.Errorf("Hello %d, Data %d", Hello, Data)
	}
}

func TestSeal(t *testing.T) { // P19.1, against tags that another program told
	for _, c := range []struct {
		key  api.Hash
		p    Packet
		want string
	}{
		{key, Packet{Data, 5, 3, []byte{1}}, "01 05 03 01 2637da551712a2a090972f0027232368"},
		{key, Packet{}, "00 00 00 159b7422f3122ab9544c182ebb6c2b42"},
		{key, Packet{Data, 64, 16384, []byte{1, 6, 9}}, "01 4040 80004000 010609 7cbb7d3cf718c65b216bed92b1a9ec57"},
		{key, Packet{Data, 1 << 40, 1 << 30, []byte("x")}, "01 c000010000000000 c000000040000000 78 613db3e424ee5a8245101bbc4f8322e0"},
		{api.Hash(unhex("000102030405060708090a0b0c0d0e0f101112131415161718191a1b1c1d1e1f")), Packet{Hello, 63, 16383, []byte("ab")}, "00 3f 7fff 6162 f3913f8ea8375ddb4589bbbd670e2f66"},
	} {
		if got := seal(t, c.key, c.p); !bytes.Equal(got, unhex(c.want)) {
			t.Errorf("Seal(%v) = %x, want %s", c.p, got, c.want)
		}
	}
}

func TestSealHeads(t *testing.T) { // P19.1: the head, and what mac.Seal lays with it
	for _, kind := range []uint8{Hello, Data} {
		for _, conn := range edges {
			for _, num := range edges {
				for _, body := range [][]byte{nil, {}, {1}, many(100), pings(1167)} {
					p := Packet{kind, conn.n, num.n, body}
					head := plainHead(p)
					if len(head) != 1+conn.width+num.width {
						t.Fatalf("the head of %v is %x", p, head)
					}
					if got := seal(t, key, p); !bytes.Equal(got, slices.Concat(head, mac.Seal(key, head, body))) {
						t.Fatalf("Seal of the head %x and %d bytes = %x", head, len(body), got)
					}
				}
			}
		}
	}
}

func TestSealErrors(t *testing.T) { // P19.1
	for _, p := range wrongHeads {
		for _, body := range [][]byte{nil, {1}, pings(1200), pings(5000)} { // ErrArg stands ahead of ErrLong
			p.Body = body
			if b, err := Seal(key, p); err != api.ErrArg || b != nil {
				t.Errorf("Seal(%d, %d, %d, %d bytes) = %x, %d", p.Kind, p.Conn, p.Num, len(body), b, int(err))
			}
		}
	}
	for _, body := range []int{1182, 1183, 1200, 1201, 100000} {
		if b, err := Seal(key, Packet{Data, 5, 3, pings(body)}); err != api.ErrLong || b != nil {
			t.Errorf("Seal of %d bytes = %x, %d", body, b, int(err))
		}
	}
}

func TestRoom(t *testing.T) { // P19.1: so many bytes make just 1200, one more is too long
	for _, kind := range []uint8{Hello, Data} {
		for _, conn := range edges {
			for _, num := range edges {
				p := Packet{Kind: kind, Conn: conn.n, Num: num.n}
				room := Room(p)
				if want := 1200 - 1 - conn.width - num.width - 16; room != want {
					t.Errorf("Room of %d and %d = %d, want %d", conn.n, num.n, room, want)
				}
				p.Body = many(room)
				if b, err := Seal(key, p); err != api.OK || len(b) != 1200 {
					t.Errorf("Seal of %d bytes has %d bytes, %d", room, len(b), int(err))
				}
				p.Body = many(room - 1)
				if b, err := Seal(key, p); err != api.OK || len(b) != 1199 {
					t.Errorf("Seal of %d bytes has %d bytes, %d", room-1, len(b), int(err))
				}
				p.Body = many(room + 1)
				if b, err := Seal(key, p); err != api.ErrLong || b != nil {
					t.Errorf("Seal of %d bytes has %d bytes, %d", room+1, len(b), int(err))
				}
				if again := Room(p); again != room {
					t.Errorf("Room hangs on the Body: %d, %d", room, again)
				}
			}
		}
	}
	for _, p := range wrongHeads {
		for _, body := range [][]byte{nil, {1}, pings(5000)} {
			p.Body = body
			if n := Room(p); n != 0 {
				t.Errorf("Room(%d, %d, %d) = %d", p.Kind, p.Conn, p.Num, n)
			}
		}
	}
}

func TestPeekErrors(t *testing.T) { // P19.2
	tag := strings.Repeat(" ff", 16)
	for _, c := range []struct {
		b    string
		want api.Errno
	}{
		{"", api.ErrCut},
		{"00", api.ErrCut},
		{"01", api.ErrCut},
		{"02", api.ErrForm}, // met ahead of the end
		{"ff", api.ErrForm},
		{"02 05 03" + tag, api.ErrForm},
		{"01 05", api.ErrCut},
		{"01 40", api.ErrCut},
		{"01 ff", api.ErrCut}, // a number that is cut off is cut off, whatever it would be
		{"01 c0000100000000", api.ErrCut},
		{"01 4005", api.ErrForm}, // not in its least width, and the next one is not there
		{"01 403f 03" + tag, api.ErrForm},
		{"01 4040 03" + tag, api.OK},
		{"01 80003fff 03" + tag, api.ErrForm},
		{"01 80004000 03" + tag, api.OK},
		{"01 c00000003fffffff 03" + tag, api.ErrForm},
		{"01 c000000040000000 03" + tag, api.OK},
		{"01 c000010000000000 03" + tag, api.OK},
		{"01 c000010000000001 03" + tag, api.ErrForm}, // above MaxTime
		{"01 c000010000000001", api.ErrForm},
		{"01 ffffffffffffffff", api.ErrForm},
		{"01 05 40", api.ErrCut},
		{"01 05 4003", api.ErrForm},
		{"01 05 403f" + tag, api.ErrForm},
		{"01 05 4040" + tag, api.OK},
		{"01 05 80003fff" + tag, api.ErrForm},
		{"01 05 c00000003fffffff" + tag, api.ErrForm},
		{"01 05 c000010000000000" + tag, api.OK},
		{"01 05 c000010000000001" + tag, api.ErrForm},
		{"01 05 c000010000000001", api.ErrForm}, // met ahead of the tag that is not there
		{"01 4005 c0", api.ErrForm},
		{"01 05 03", api.ErrCut},
		{"01 05 03" + tag[3:], api.ErrCut},
		{"01 05 03" + tag, api.OK},
		{"01 05 03 02" + tag, api.OK},
	} {
		b := unhex(c.b)
		if p, err := Peek(b); err != c.want || err != api.OK && !isZero(p) {
			t.Errorf("Peek(%s) = %v, %d, want %d", c.b, p, int(err), int(c.want))
		}
		holdPeek(t, b)
		want := c.want
		if want == api.OK {
			want = api.ErrTag
		}
		refused(t, key, b, want)
	}
}

func TestPeekLong(t *testing.T) { // P19.2: ErrLong stands ahead of all else
	for _, first := range []byte{0, 1, 2, 255} {
		for _, n := range []int{1201, 1202, 5000} {
			b := make([]byte, n)
			b[0] = first
			if p, err := Peek(b); err != api.ErrLong || !isZero(p) {
				t.Errorf("Peek of %d bytes = %v, %d", n, p, int(err))
			}
			refused(t, key, b, api.ErrLong)
		}
	}
	if p, err := Peek(make([]byte, 1200)); err != api.OK || len(p.Body) != 1181 {
		t.Errorf("Peek of 1200 noughts = %d bytes, %d", len(p.Body), int(err))
	}
	long := append(seal(t, key, Packet{Data, 5, 3, pings(1181)}), 0)
	refused(t, key, long, api.ErrLong)
}

func TestPeekAll(t *testing.T) { // P19.2: all texts of up to five of such bytes as matter, with and without a tag's room behind them
	units := []byte{0, 1, 2, 5, 0x3f, 0x40, 0x80, 0xc0, 0xff}
	var walk func(b []byte)
	walk = func(b []byte) {
		for _, behind := range []int{0, 4, 15, 16, 17} {
			holdPeek(t, append(bytes.Clone(b), make([]byte, behind)...))
		}
		if len(b) < 5 {
			for _, x := range units {
				walk(append(bytes.Clone(b), x))
			}
		}
	}
	walk(nil)
}

func TestPeekCuts(t *testing.T) { // P19.2: each place
	for _, conn := range edges {
		for _, num := range edges {
			p := Packet{Data, conn.n, num.n, []byte{1, 6, 9}}
			b := seal(t, key, p)
			head := 1 + conn.width + num.width
			for n := range len(b) + 1 {
				holdPeek(t, b[:n])
				holdOpen(t, key, b[:n])
				if n >= head+16 {
					continue
				}
				if got, err := Peek(b[:n]); err != api.ErrCut || !isZero(got) {
					t.Errorf("Peek(%x) = %v, %d", b[:n], got, int(err))
				}
				refused(t, key, b[:n], api.ErrCut)
			}
		}
	}
}

func TestPeekAsksNoTag(t *testing.T) { // P19.2: neither the tag nor the frames are looked at
	p := Packet{Data, 5, 3, []byte{0, 99}}
	b := seal(t, key, p)
	b[len(b)-1]++
	if got, err := Peek(b); err != api.OK || !same(got, p) {
		t.Errorf("Peek = %v, %d", got, int(err))
	}
}

func TestOpenErrors(t *testing.T) { // P19.2: Peek's error, ErrTag, and then that of the frames
	for _, c := range []struct {
		body string
		want api.Errno
	}{
		{"", api.OK},
		{"01", api.OK},
		{"00", api.ErrKind},
		{"0b", api.ErrKind},
		{"06", api.ErrCut},
		{"06 09 03 04", api.ErrCut},
		{"06 4009", api.ErrForm},
		{"02 00 00 00 00", api.OK},
		{"03 00 c000010000000000 00 01 78", api.ErrRange},
		{"01 01 00 06", api.ErrKind},
		{"01 06 00", api.OK},
	} {
		b := seal(t, key, Packet{Data, 5, 3, unhex(c.body)})
		holdOpen(t, key, b)
		if c.want != api.OK {
			refused(t, key, b, c.want)
		} else if _, _, err := Open(key, b); err != api.OK {
			t.Errorf("Open of the body %s = %d", c.body, int(err))
		}
		refused(t, api.Hash{8}, b, api.ErrTag)
		b[len(b)-1] ^= 1
		refused(t, key, b, api.ErrTag)
		b[0] = 2
		refused(t, key, b, api.ErrForm)
	}
}

// samples has lists of frames.
func samples() [][]frame.Frame {
	all := []frame.Frame{
		frame.Ping{},
		frame.Ack{Delay: 3, Spans: []api.Span{{From: 2, To: 3}, {From: 7, To: 9}}},
		frame.Stream{ID: 4, Off: 70, Fin: true, Data: "hi"},
		frame.Reset{ID: 1, Code: 2, Final: 3},
		frame.Stop{ID: 1, Code: 2},
		frame.MaxData{N: api.MaxTime},
		frame.MaxStream{ID: 1, N: 9},
		frame.MaxStreams{N: 3},
		frame.Hello{Nonce: [16]byte{1, 15: 2}, Text: "t"},
		frame.Close{Code: 1, Text: "bye"},
	}
	lists := [][]frame.Frame{nil, all}
	for _, f := range all {
		lists = append(lists, []frame.Frame{f}, []frame.Frame{f, frame.Ping{}, f})
	}
	return append(lists, []frame.Frame{frame.Stream{Data: strings.Repeat("x", 1100)}, frame.Close{Text: strings.Repeat("y", 50)}})
}

func TestPackSealOpen(t *testing.T) { // P19.3, P19.4
	for _, key := range []api.Hash{{}, key, api.Hash(many(32))} {
		for _, l := range samples() {
			for _, conn := range edges {
				for _, kind := range []uint8{Hello, Data} {
					p, err := Pack(kind, conn.n, 3, l)
					if err != api.OK {
						t.Fatalf("Pack(%v) = %d", l, int(err))
					}
					b := seal(t, key, p)
					peeked, err := Peek(b)
					if err != api.OK || !same(peeked, p) {
						t.Fatalf("Peek = %v, %d, want %v", peeked, int(err), p)
					}
					got, frames, err := Open(key, b)
					if err != api.OK || !same(got, p) || !reflect.DeepEqual(frames, l) {
						t.Fatalf("Open = %v, %v, %d, want %v, %v", got, frames, int(err), p, l)
					}
				}
			}
		}
	}
}

func TestOtherTag(t *testing.T) { // P19.4: each bit of the packet and of the key counts, and each length
	p, _ := Pack(Data, 100, 70000, samples()[1])
	b := seal(t, key, p)
	for place := range b {
		for bit := range 8 {
			other := bytes.Clone(b)
			other[place] ^= 1 << bit
			holdOpen(t, key, other)
			if _, err := Peek(other); err == api.OK {
				refused(t, key, other, api.ErrTag)
			}
		}
	}
	for place := range key {
		for bit := range 8 {
			other := key
			other[place] ^= 1 << bit
			refused(t, other, b, api.ErrTag)
		}
	}
	head := 1 + 2 + 4
	for n := head + 16; n < len(b); n++ {
		refused(t, key, b[:n], api.ErrTag)
	}
	refused(t, key, append(bytes.Clone(b), 0), api.ErrTag)
	refused(t, key, slices.Concat(b[:len(b)-16], make([]byte, 16)), api.ErrTag)
	refused(t, key, slices.Concat(b[:len(b)-16], mac.Tag(key, b[:len(b)-16])), api.ErrTag)
}

func TestHeadIsInTheTag(t *testing.T) { // P19.2, P19.4: a tag of one head is none of another one
	tag := func(p Packet) []byte { b := seal(t, key, p); return b[len(b)-16:] }
	was := Packet{Data, 5, 3, []byte{1}}
	for _, p := range []Packet{{Hello, 5, 3, was.Body}, {Data, 6, 3, was.Body}, {Data, 5, 4, was.Body}, {Data, 3, 5, was.Body}} {
		refused(t, key, slices.Concat(plainHead(p), p.Body, tag(was)), api.ErrTag)
	}
	refused(t, key, slices.Concat(unhex("01 05 03 01"), mac.Seal(key, nil, []byte{1})[1:]), api.ErrTag)
}

func TestFirst(t *testing.T) { // P19.3, against sums that another program told
	for _, c := range []struct{ psk, want string }{
		{"", "dcc986c8ee8fae581dc57b20da511337eaf7d35c993525b7c522bbff996a83bf"},
		{"psk", "0f323636a441e46888022c1ce67c1d5d799e418d78edee4196f6bd74c6073f63"},
		{strings.Repeat("k", 64), "82864008fe3a3a6b2066d672a99f5741009de768cc5bb844ffbe2fd7a000b7b9"},
		{strings.Repeat("k", 65), "f5fc62c3ca8a8bd89deccb8cc805c8316f7b2677de435e09b1b3c72b24fefb1a"},
	} {
		if got := First([]byte(c.psk)); got != api.Hash(unhex(c.want)) {
			t.Errorf("First(%q) = %x, want %s", c.psk, got, c.want)
		}
	}
	if First(nil) != First([]byte{}) {
		t.Error("an empty list is not as nil")
	}
}

func TestKeys(t *testing.T) { // P19.3
	a, b := [16]byte{1}, [16]byte{15: 2}
	for _, x := range []struct{ psk, c, s string }{
		{"", "94cb467b8f89df8107434ab03ee975b9bb7a175b5ab41ffe2d174d3428baf841", "0c679e78b243fa3c94e80f2216d05e5554ef8dc93b2a99dcd43e9d6e3544619f"},
		{"psk", "541ef20cac2b6c252d35606f43ed1672272213805ffd94f1f3ab1894a9a16d4e", "05bca2d3794f112e6a7b2e50f2e78eb9e65465da58940b8019a5601c18b83f6e"},
		{strings.Repeat("k", 64), "be69a126ba8652a8ff75d2ca18b715a65de62888a822d512ae8ed05fd44effe8", "57c864c18a2c5e143166f77f1d658e2faf16f4bbc880f21a86b02506919b1730"},
		{strings.Repeat("k", 65), "766c4b4f5b6c9a8677e36d3270ddd12529ea28580659cbcba22465e7af5ce2e6", "f1ba4a89513e92e960490aa9c70b0614e8604683af7d08fb4fabf2325954d2a5"},
	} {
		if c, s := Keys([]byte(x.psk), a, b); c != api.Hash(unhex(x.c)) || s != api.Hash(unhex(x.s)) {
			t.Errorf("Keys(%q) = %x, %x, want %s, %s", x.psk, c, s, x.c, x.s)
		}
	}
}

func TestKeysApart(t *testing.T) { // P19.3: each byte counts, and in which nonce it stands
	seen := map[api.Hash]string{}
	put := func(name string, keys ...api.Hash) {
		for i, k := range keys {
			here := fmt.Sprintf("%s, key %d", name, i)
			if other, is := seen[k]; is {
				t.Errorf("%s is %s", here, other)
			}
			seen[k] = here
		}
	}
	both := func(psk []byte, a, b [16]byte) []api.Hash {
		c, s := Keys(psk, a, b)
		return []api.Hash{c, s}
	}
	psk := []byte("psk")
	put("none", both(psk, [16]byte{}, [16]byte{})...)
	put("first", First(psk), First([]byte("psl")), First([]byte("ps")))
	put("another secret", both([]byte("psl"), [16]byte{}, [16]byte{})...)
	for i := range 16 {
		var nonce [16]byte
		nonce[i] = 1
		put(fmt.Sprint("a at ", i), both(psk, nonce, [16]byte{})...)
		put(fmt.Sprint("b at ", i), both(psk, [16]byte{}, nonce)...)
	}
	p := Packet{Data, 5, 3, []byte{1}}
	c, s := Keys(psk, [16]byte{1}, [16]byte{2})
	refused(t, s, seal(t, c, p), api.ErrTag)
	refused(t, c, seal(t, s, p), api.ErrTag)
	refused(t, First(psk), seal(t, c, p), api.ErrTag)
}

// stranger stands behind the interface, but is no frame of the kinds.
type stranger struct{ frame.Frame }

func TestPack(t *testing.T) { // P19.3
	for _, l := range samples() {
		var body []byte
		for _, f := range l {
			b, err := frame.Put(f)
			if err != api.OK {
				t.Fatal(f, int(err))
			}
			body = append(body, b...)
		}
		for _, conn := range edges {
			for _, num := range edges {
				want := Packet{Data, conn.n, num.n, body}
				if p, err := Pack(Data, conn.n, num.n, l); err != api.OK || !same(p, want) {
					t.Fatalf("Pack(%v) = %v, %d, want %v", l, p, int(err), want)
				}
			}
		}
	}
	for _, l := range [][]frame.Frame{nil, {}} {
		if p, err := Pack(Hello, 0, 0, l); err != api.OK || !isZero(Packet{p.Kind, p.Conn, p.Num, nil}) || len(p.Body) != 0 {
			t.Errorf("Pack of nothing = %v, %d", p, int(err))
		}
	}
}

func TestPackErrors(t *testing.T) { // P19.3: the frames' first error stands ahead of all else, ErrLong ahead of ErrArg
	full := slices.Repeat([]frame.Frame{frame.Ping{}}, 1200)
	none := frame.MaxData{N: -1}                                    // ErrRange
	long := frame.Stream{Data: strings.Repeat("x", 1101)}           // ErrLong
	odd := frame.Ack{Spans: []api.Span{{From: 5, To: 4}}}           // ErrForm
	fits := slices.Repeat([]frame.Frame{frame.MaxData{N: 64}}, 393) // 1179 bytes
	for _, c := range []struct {
		kind      uint8
		conn, num int
		l         []frame.Frame
		want      api.Errno
	}{
		{Data, 5, 3, []frame.Frame{nil}, api.ErrNil},
		{Data, 5, 3, []frame.Frame{stranger{}}, api.ErrKind},
		{Data, 5, 3, []frame.Frame{&frame.Ping{}}, api.ErrKind},
		{Data, 5, 3, []frame.Frame{frame.Ping{}, none, nil}, api.ErrRange},
		{Data, 5, 3, []frame.Frame{nil, none}, api.ErrNil},
		{Data, 5, 3, []frame.Frame{long, none}, api.ErrLong},
		{Data, 5, 3, []frame.Frame{odd, long}, api.ErrForm},
		{Data, 5, 3, append(slices.Clone(full), none), api.ErrRange},
		{Data, 5, 3, append(slices.Clone(full), nil), api.ErrNil},
		{Data, 5, 3, full, api.ErrLong},
		{Data, 5, 3, full[:1181], api.OK},
		{Data, 5, 3, full[:1182], api.ErrLong},
		{Data, 63, 63, full[:1181], api.OK},
		{Data, 64, 63, full[:1181], api.ErrLong},
		{Data, 63, 64, full[:1181], api.ErrLong},
		{Data, 64, 64, full[:1179], api.OK},
		{Hello, 64, 64, full[:1180], api.ErrLong},
		{Hello, api.MaxTime, api.MaxTime, full[:1167], api.OK},
		{Hello, api.MaxTime, api.MaxTime, full[:1168], api.ErrLong},
		{Data, 64, 64, fits, api.OK},
		{Data, 64, 64, append(slices.Clone(fits), frame.Ping{}), api.ErrLong},
	} {
		holdPack(t, c.kind, c.conn, c.num, c.l, c.want)
	}
	for _, p := range wrongHeads {
		holdPack(t, p.Kind, p.Conn, p.Num, nil, api.ErrArg)
		holdPack(t, p.Kind, p.Conn, p.Num, full[:1], api.ErrLong) // its Room is 0
		holdPack(t, p.Kind, p.Conn, p.Num, full, api.ErrLong)
		holdPack(t, p.Kind, p.Conn, p.Num, []frame.Frame{none}, api.ErrRange)
		holdPack(t, p.Kind, p.Conn, p.Num, []frame.Frame{nil}, api.ErrNil)
	}
}

func holdPack(t *testing.T, kind uint8, conn, num int, l []frame.Frame, want api.Errno) {
	t.Helper()
	p, err := Pack(kind, conn, num, l)
	if err != want || err != api.OK && !isZero(p) {
		t.Errorf("Pack(%d, %d, %d) of %d frames = %d, %d bytes, want %d", kind, conn, num, len(l), int(err), len(p.Body), int(want))
	}
	if err == api.OK {
		if _, err := Seal(key, p); err != api.OK {
			t.Errorf("Seal of what was packed = %d", int(err))
		}
	}
}

// roomy has spare room, which is not nought.
func roomy(b []byte) []byte {
	long := append(bytes.Clone(b), bytes.Repeat([]byte{0xee}, 64)...)
	return long[:len(b)]
}

// spoil turns all bits, of the spare room, too.
func spoil(b []byte) {
	b = b[:cap(b)]
	for i := range b {
		b[i] ^= 0xff
	}
}

func TestAnswersAreNew(t *testing.T) { // an answer shares no memory, and no argument is changed
	for place, frames := range samples()[:2] {
		packed, _ := Pack(Data, 5, 3, frames)
		body := roomy(packed.Body)
		bodyWas := bytes.Clone(body[:cap(body)])
		p := Packet{Data, 5, 3, body}
		sealed := seal(t, key, p)
		want := bytes.Clone(sealed)
		spoil(seal(t, key, p))
		b := roomy(sealed)
		was := bytes.Clone(b[:cap(b)])
		peeked, _ := Peek(b)
		spoil(peeked.Body)
		got, list, err := Open(key, b)
		again, _, _ := Open(key, b)
		spoil(got.Body)
		if err != api.OK || !same(again, p) || !reflect.DeepEqual(list, frames) {
			t.Errorf("Open = %v, %v, %d", again, list, int(err))
		}
		other, _ := Pack(Data, 5, 3, frames)
		spoil(other.Body)
		if !bytes.Equal(body[:cap(body)], bodyWas) || !bytes.Equal(b[:cap(b)], was) || !bytes.Equal(sealed, want) {
			t.Error("an argument was changed, or an answer shares memory")
		}
		spoil(b)
		if !same(again, p) || !reflect.DeepEqual(list, frames) {
			t.Error("what was opened shares memory with what was sealed")
		}
		if !reflect.DeepEqual(frames, samples()[place]) || !bytes.Equal(seal(t, key, packed), want) {
			t.Error("what was packed was changed")
		}
	}
	psk := roomy([]byte("psk"))
	First(psk)
	Keys(psk, [16]byte{}, [16]byte{})
	if string(psk) != "psk" || psk[:4][3] != 0xee {
		t.Error("the secret was changed")
	}
}

func TestByChance(t *testing.T) { // P19.2, P19.4: packets by chance, whole and spoilt
	draw := rand.New(rand.NewSource(19))
	lists := samples()
	for range 3000 {
		var key api.Hash
		draw.Read(key[:])
		l := lists[draw.Intn(len(lists))]
		p, err := Pack(uint8(draw.Intn(2)), draw.Intn(1<<draw.Intn(41)), draw.Intn(1<<draw.Intn(41)), l)
		if err != api.OK {
			t.Fatal(int(err))
		}
		b := seal(t, key, p)
		holdOpen(t, key, b)
		for range 4 {
			other := bytes.Clone(b)
			switch draw.Intn(4) {
			case 0:
				other[draw.Intn(len(other))] ^= byte(1 + draw.Intn(255))
			case 1:
				other = other[:draw.Intn(len(other))]
			case 2:
				other[draw.Intn(min(len(other), 18))] = byte(draw.Intn(256))
			case 3:
				other = append(other, byte(draw.Intn(256)))
			}
			holdPeek(t, other)
			holdOpen(t, key, other)
		}
	}
}

func FuzzPacket(f *testing.F) { // P19.1 to P19.4
	f.Add([]byte("\x01\x05\x03\x010123456789abcdef"), uint8(1), 5, 3)
	f.Add([]byte("\x02"), uint8(2), -1, api.MaxTime)
	f.Add(make([]byte, 1201), uint8(0), 64, 16384)
	f.Fuzz(func(t *testing.T, b []byte, kind uint8, conn, num int) {
		holdPeek(t, b)
		holdOpen(t, key, b)
		p := Packet{kind, conn, num, b}
		right := kind <= 1 && conn >= 0 && conn <= 1<<40 && num >= 0 && num <= 1<<40
		sealed, err := Seal(key, p)
		switch {
		case !right && (err != api.ErrArg || Room(p) != 0):
			t.Fatalf("Seal(%v) = %d, Room %d", p, int(err), Room(p))
		case right && (err == api.OK) != (len(plainHead(p))+len(b)+16 <= 1200):
			t.Fatalf("Seal(%v) = %d", p, int(err))
		case err == api.OK:
			if got, err := Peek(sealed); err != api.OK || !same(got, p) {
				t.Fatalf("Peek(%x) = %v, %d", sealed, got, int(err))
			}
			holdOpen(t, key, sealed)
		}
	})
}
