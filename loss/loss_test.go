package loss

import (
	"math"
	"math/rand"
	"slices"
	"testing"

	"sumpter/api"
	"sumpter/ranges"
)

// noTimes are numbers that are neither a packet's nor a time.
var noTimes = []int{math.MinInt, -1 << 40, -1, 1<<40 + 1, math.MaxInt}

func span(from, to int) api.Span { return api.Span{From: from, To: to} }

// list is spans, of pairs of numbers.
func list(ends ...int) []api.Span {
	var l []api.Span
	for i := 0; i < len(ends); i += 2 {
		l = append(l, span(ends[i], ends[i+1]))
	}
	return l
}

// ask is a packet that asks, tell is one that does not.
func ask(num, at, size int) Packet  { return Packet{Num: num, At: at, Size: size, Asks: true} }
func tell(num, at, size int) Packet { return Packet{Num: num, At: at, Size: size} }

// sent is a ledger of packets.
func sent(t *testing.T, l ...Packet) *Ledger {
	t.Helper()
	made := New()
	for _, p := range l {
		if err := made.Sent(p); err != api.OK {
			t.Fatalf("Sent(%+v) = %d", p, err)
		}
	}
	return made
}

// row is a ledger of n packets that ask, of 100 bytes, numbers and times from 0 on.
func row(t *testing.T, n int) *Ledger {
	t.Helper()
	l := New()
	for i := range n {
		if err := l.Sent(ask(i, i, 100)); err != api.OK {
			t.Fatalf("Sent of %d = %d", i, err)
		}
	}
	return l
}

// ack acknowledges what can be.
func ack(t *testing.T, l *Ledger, now int, ends ...int) []Packet {
	t.Helper()
	got, _, _, err := l.Ack(list(ends...), now)
	if err != api.OK {
		t.Fatalf("Ack(%v, %d) = %d", ends, now, err)
	}
	return got
}

// open is the open packets of a ledger whose packet sent last had that number, asked of a fork.
func open(t *testing.T, l *Ledger, last int) []Packet {
	t.Helper()
	return ack(t, l.Fork(), api.MaxTime, 0, last)
}

// numbers are those of packets.
func numbers(l []Packet) []int {
	var n []int
	for _, p := range l {
		n = append(n, p.Num)
	}
	return n
}

// What became of a packet.
const (
	isOpen = iota
	isAcknowledged
	isLost
)

// plain is a ledger that writes down all that ever happened, and reads the promises word by word.
type plain struct {
	sent   []Packet
	became []int
	came   []int // the last To of each acknowledgement
}

func plainTime(n int) bool { return n >= 0 && n < 1<<40+1 }

func (p *plain) fork() *plain {
	return &plain{sent: slices.Clone(p.sent), became: slices.Clone(p.became), came: slices.Clone(p.came)}
}

// where is the packets that are open and for which is holds; they become what is told, if that is not isOpen.
func (p *plain) where(becomes int, is func(x Packet) bool) []Packet {
	var l []Packet
	for i, x := range p.sent {
		if p.became[i] == isOpen && is(x) {
			l = append(l, x)
			p.became[i] = becomes
		}
	}
	return l
}

func (p *plain) open() []Packet { return p.where(isOpen, func(Packet) bool { return true }) }

func (p *plain) largest() (int, bool) {
	if len(p.came) == 0 {
		return 0, false
	}
	return slices.Max(p.came), true
}

// below tells whether a packet's number is below the largest, by that many at least.
func (p *plain) below(x Packet, by int) bool {
	n, is := p.largest()
	return is && n-x.Num >= by
}

// Sent is P21.1.
func (p *plain) Sent(x Packet) api.Errno {
	wrong := !plainTime(x.Num) || !plainTime(x.At) || x.Size < 1 || x.Size > 1200
	for _, y := range p.sent {
		wrong = wrong || x.Num <= y.Num
	}
	if n := len(p.sent); n > 0 {
		wrong = wrong || x.At < p.sent[n-1].At
	}
	if wrong {
		return api.ErrArg
	}
	if len(p.open()) >= 1024 {
		return api.ErrFull
	}
	p.sent, p.became = append(p.sent, x), append(p.became, isOpen)
	return api.OK
}

// Ack is P21.2.
func (p *plain) Ack(spans []api.Span, now int) (got []Packet, sample int, has bool, err api.Errno) {
	if err := ranges.Check(spans); err != api.OK {
		return nil, 0, false, err
	}
	to, above := spans[len(spans)-1].To, true
	for _, x := range p.sent {
		above = above && to > x.Num
	}
	if above {
		return nil, 0, false, api.ErrState
	}
	if now < p.sent[len(p.sent)-1].At || now > 1<<40 {
		return nil, 0, false, api.ErrTime
	}
	got = p.where(isAcknowledged, func(x Packet) bool {
		for _, s := range spans {
			if x.Num >= s.From && x.Num <= s.To {
				return true
			}
		}
		return false
	})
	largest, is := p.largest()
	asked := false
	for _, x := range got {
		asked = asked || x.Asks
	}
	for _, x := range got {
		if x.Num == to && asked && (!is || to > largest) {
			sample, has = now-x.At, true
		}
	}
	p.came = append(p.came, to)
	return got, sample, has, api.OK
}

// Lost is P21.3.
func (p *plain) Lost(now, late int) []Packet {
	if !plainTime(now) || !plainTime(late) {
		return nil
	}
	return p.where(isLost, func(x Packet) bool {
		return p.below(x, 1) && (p.below(x, 3) || !(x.At > now-late))
	})
}

// Next is P21.3.
func (p *plain) Next(late int) (int, bool) {
	least, is := 0, false
	for _, x := range p.open() {
		if plainTime(late) && p.below(x, 1) && (!is || x.At+late < least) {
			least, is = x.At+late, true
		}
	}
	return least, is
}

// Oldest is P21.4.
func (p *plain) Oldest() (Packet, bool) {
	for _, x := range p.open() {
		if x.Asks {
			return x, true
		}
	}
	return Packet{}, false
}

// Flying is P21.4.
func (p *plain) Flying() int {
	n := 0
	for _, x := range p.open() {
		if x.Asks {
			n += x.Size
		}
	}
	return n
}

// pair is a ledger, and the plain one that had the same calls; told is what became of each packet by what the ledger told.
type pair struct {
	l    *Ledger
	p    *plain
	told []Packet
}

func newPair() *pair { return &pair{l: New(), p: &plain{}} }

func (x *pair) fork() *pair {
	return &pair{l: x.l.Fork(), p: x.p.fork(), told: slices.Clone(x.told)}
}

func (x *pair) sent(t *testing.T, p Packet) {
	t.Helper()
	if got, want := x.l.Sent(p), x.p.Sent(p); got != want {
		t.Fatalf("Sent(%+v) = %d, want %d", p, got, want)
	}
}

func (x *pair) ack(t *testing.T, spans []api.Span, now int) {
	t.Helper()
	got, sample, has, err := x.l.Ack(spans, now)
	got2, sample2, has2, err2 := x.p.Ack(spans, now)
	if !slices.Equal(got, got2) || sample != sample2 || has != has2 || err != err2 {
		t.Fatalf("Ack(%v, %d) = %+v, %d, %v, %d, want %+v, %d, %v, %d", spans, now, got, sample, has, err, got2, sample2, has2, err2)
	}
	x.told = append(x.told, got...)
}

func (x *pair) lost(t *testing.T, now, late int) {
	t.Helper()
	got, want := x.l.Lost(now, late), x.p.Lost(now, late)
	if !slices.Equal(got, want) {
		t.Fatalf("Lost(%d, %d) = %+v, want %+v", now, late, got, want)
	}
	x.told = append(x.told, got...)
}

// hold holds all looks against the plain ones, and P21.5.
func (x *pair) hold(t *testing.T) {
	t.Helper()
	if x.l.Len() != len(x.p.open()) || x.l.Flying() != x.p.Flying() {
		t.Fatalf("Len = %d, Flying = %d, want %d, %d", x.l.Len(), x.l.Flying(), len(x.p.open()), x.p.Flying())
	}
	n, is := x.l.Largest()
	if n2, is2 := x.p.largest(); n != n2 || is != is2 {
		t.Fatalf("Largest = %d, %v, want %d, %v", n, is, n2, is2)
	}
	o, is := x.l.Oldest()
	if o2, is2 := x.p.Oldest(); o != o2 || is != is2 {
		t.Fatalf("Oldest = %+v, %v, want %+v, %v", o, is, o2, is2)
	}
	for _, late := range []int{-1, 0, 3, 1 << 40, 1<<40 + 1} {
		n, is := x.l.Next(late)
		if n2, is2 := x.p.Next(late); n != n2 || is != is2 {
			t.Fatalf("Next(%d) = %d, %v, want %d, %v", late, n, is, n2, is2)
		}
	}
	if len(x.p.sent) == 0 {
		return
	}
	left := open(t, x.l, x.p.sent[len(x.p.sent)-1].Num)
	if !slices.Equal(left, x.p.open()) {
		t.Fatalf("open: %+v, want %+v", left, x.p.open())
	}
	all := slices.SortedFunc(slices.Values(append(left, x.told...)), func(a, b Packet) int { return a.Num - b.Num })
	if !slices.Equal(all, x.p.sent) {
		t.Fatalf("told or open: %+v, sent: %+v", all, x.p.sent)
	}
}

// The chapter's example.
func TestExample(t *testing.T) {
	l := New()
	for i := range 5 {
		if err := l.Sent(ask(i, 0, 100)); err != api.OK {
			t.Fatal(err)
		}
	}
	got, sample, has, err := l.Ack(list(4, 4), 9)
	if !slices.Equal(got, []Packet{ask(4, 0, 100)}) || sample != 9 || !has || err != api.OK {
		t.Errorf("Ack = %+v, %d, %v, %d", got, sample, has, err)
	}
	if lost := l.Lost(9, 20); !slices.Equal(lost, []Packet{ask(0, 0, 100), ask(1, 0, 100)}) {
		t.Errorf("Lost = %+v", lost)
	}
	if at, is := l.Next(20); at != 20 || !is {
		t.Errorf("Next = %d, %v", at, is)
	}
	if l.Flying() != 200 {
		t.Errorf("Flying = %d", l.Flying())
	}
}

// P21.1: of the first packet, and of one behind 5 at 7.
func TestSent(t *testing.T) {
	for _, c := range []struct {
		name  string
		p     Packet
		first api.Errno
		next  api.Errno
	}{
		{"the least", tell(0, 0, 1), api.OK, api.ErrArg},
		{"the greatest", ask(1<<40, 1<<40, 1200), api.OK, api.OK},
		{"a number below", ask(4, 7, 1), api.OK, api.ErrArg},
		{"the same number", ask(5, 7, 1), api.OK, api.ErrArg},
		{"the next number, at the same time", ask(6, 7, 1), api.OK, api.OK},
		{"a number left out", tell(9, 8, 1200), api.OK, api.OK},
		{"a time ahead", ask(6, 6, 1), api.OK, api.ErrArg},
		{"no bytes", ask(6, 7, 0), api.ErrArg, api.ErrArg},
		{"less than no bytes", ask(6, 7, -1), api.ErrArg, api.ErrArg},
		{"least of all bytes", ask(6, 7, math.MinInt), api.ErrArg, api.ErrArg},
		{"a byte too many", ask(6, 7, 1201), api.ErrArg, api.ErrArg},
		{"most of all bytes", ask(6, 7, math.MaxInt), api.ErrArg, api.ErrArg},
	} {
		l := New()
		if got := l.Sent(c.p); got != c.first {
			t.Errorf("%s: Sent(%+v) = %d, want %d", c.name, c.p, got, c.first)
		}
		if is := l.Len() == 1; is != (c.first == api.OK) {
			t.Errorf("%s: Len = %d", c.name, l.Len())
		}
		l = sent(t, tell(5, 7, 1))
		if got := l.Sent(c.p); got != c.next {
			t.Errorf("%s: behind another one Sent(%+v) = %d, want %d", c.name, c.p, got, c.next)
		}
		want := []Packet{tell(5, 7, 1)}
		if c.next == api.OK {
			want = append(want, c.p)
		}
		if got := open(t, l, want[len(want)-1].Num); !slices.Equal(got, want) {
			t.Errorf("%s: open: %+v", c.name, got)
		}
	}
	for _, n := range noTimes {
		if New().Sent(ask(n, 0, 1)) != api.ErrArg || New().Sent(ask(0, n, 1)) != api.ErrArg || sent(t, ask(5, 7, 1)).Sent(ask(n, 7, 1)) != api.ErrArg || sent(t, ask(5, 7, 1)).Sent(ask(6, n, 1)) != api.ErrArg {
			t.Errorf("sent with %d", n)
		}
	}
}

// P21.1: the numbers and the times of packets that are open no more bound the next one's, too; what was refused does not.
func TestSentBehindAll(t *testing.T) {
	l := sent(t, ask(5, 7, 1), ask(9, 8, 1))
	ack(t, l, 8, 9, 9)
	l.Lost(100, 0)
	if l.Len() != 0 {
		t.Fatalf("Len = %d", l.Len())
	}
	if l.Sent(ask(9, 8, 1)) != api.ErrArg || l.Sent(ask(10, 7, 1)) != api.ErrArg {
		t.Error("a number or a time of packets that are open no more")
	}
	if l.Sent(ask(20, 30, 1201)) != api.ErrArg || l.Sent(ask(10, 8, 1)) != api.OK {
		t.Error("what was refused counts")
	}
}

// P21.1: 1024 packets may be open.
func TestFull(t *testing.T) {
	l := row(t, 1024)
	next := ask(1024, 1024, 100)
	if l.Sent(next) != api.ErrFull || l.Sent(tell(1024, 1024, 1)) != api.ErrFull || l.Len() != 1024 {
		t.Error("one too many")
	}
	if l.Sent(ask(1024, 1024, 1201)) != api.ErrArg || l.Sent(ask(1023, 1024, 1)) != api.ErrArg || l.Sent(ask(1024, 1022, 1)) != api.ErrArg {
		t.Error("ErrArg is named ahead of ErrFull")
	}
	if _, _, _, err := l.Ack(list(1024, 1024), 2000); err != api.ErrState {
		t.Error("what was refused was sent")
	}
	if got := ack(t, l, 1023, 1000, 1000); len(got) != 1 {
		t.Errorf("told: %+v", got)
	}
	if l.Sent(next) != api.OK || l.Sent(ask(1025, 1024, 1)) != api.ErrFull {
		t.Error("behind an acknowledgement one more may be open")
	}
	if n := len(l.Lost(2000, 2000)); n != 998 { // those that are at least 3 below 1000
		t.Errorf("lost: %d", n)
	}
	if l.Sent(ask(1025, 1024, 1)) != api.OK || l.Len() != 27 {
		t.Errorf("behind losses: Len = %d", l.Len())
	}
}

// P21.2: the errors, in their order; they change nothing.
func TestAckErrors(t *testing.T) {
	var long []api.Span
	for i := range 65 {
		long = append(long, span(2*i, 2*i))
	}
	for _, c := range []struct {
		name  string
		spans []api.Span
		now   int
		want  api.Errno
	}{
		{"no spans", nil, 9, api.ErrForm},
		{"no spans, and no time", nil, -1, api.ErrForm},
		{"too many spans", long, 9, api.ErrLong},
		{"too many spans, and no time", long, -1, api.ErrLong},
		{"as many as may be, of what was not sent", long[:64], 9, api.ErrState},
		{"upside down", list(2, 1), 9, api.ErrForm},
		{"falling", list(2, 2, 0, 0), 9, api.ErrForm},
		{"touching", list(0, 1, 2, 2), 9, api.ErrForm},
		{"the same twice", list(1, 1, 1, 1), 9, api.ErrForm},
		{"below 0", list(-1, 1), 9, api.ErrForm},
		{"above what may be", list(0, 1<<40+1), 9, api.ErrForm},
		{"form ahead of state and time", list(7, 6), -1, api.ErrForm},
		{"what was not sent", list(6, 6), 9, api.ErrState},
		{"what was not sent, behind what was", list(0, 6), 9, api.ErrState},
		{"what was not sent, in the last span", list(0, 2, 6, 6), 9, api.ErrState},
		{"the greatest number", list(0, 1<<40), 9, api.ErrState},
		{"state ahead of time", list(6, 6), 3, api.ErrState},
		{"ahead of the packet sent last", list(0, 0), 3, api.ErrTime},
		{"below 0", list(0, 0), -1, api.ErrTime},
		{"far below 0", list(0, 0), math.MinInt, api.ErrTime},
		{"above the greatest time", list(0, 0), 1<<40 + 1, api.ErrTime},
		{"far above it", list(0, 0), math.MaxInt, api.ErrTime},
		{"at the packet sent last", list(0, 0), 4, api.OK},
		{"at the greatest time", list(0, 0), 1 << 40, api.OK},
		{"up to the packet sent last", list(0, 5), 4, api.OK},
	} {
		l := sent(t, ask(0, 0, 1), ask(1, 1, 1), ask(2, 2, 1), tell(5, 4, 1))
		spans := slices.Clone(c.spans)
		got, sample, has, err := l.Ack(spans, c.now)
		if err != c.want {
			t.Errorf("%s: Ack(%v, %d) = %d, want %d", c.name, c.spans, c.now, err, c.want)
		}
		if !slices.Equal(spans, c.spans) {
			t.Errorf("%s: the spans are changed: %v", c.name, spans)
		}
		if err == api.OK {
			continue
		}
		if len(got) != 0 || sample != 0 || has || l.Len() != 4 {
			t.Errorf("%s: beside an error %+v, %d, %v; Len = %d", c.name, got, sample, has, l.Len())
		}
		if _, is := l.Largest(); is {
			t.Errorf("%s: there is a largest", c.name)
		}
	}
}

// P21.2: nothing that was not sent can be acknowledged, at no time.
func TestAckOfNothing(t *testing.T) {
	for _, now := range []int{-1, 0, 1 << 40, 1<<40 + 1} {
		if got, sample, has, err := New().Ack(list(0, 0), now); len(got) != 0 || sample != 0 || has || err != api.ErrState {
			t.Errorf("Ack = %+v, %d, %v, %d", got, sample, has, err)
		}
	}
	if _, _, _, err := New().Ack(nil, 0); err != api.ErrForm {
		t.Errorf("Ack of no spans = %d", err)
	}
	// The packet sent last need not be open any more to bound the time.
	l := sent(t, ask(0, 5, 1))
	ack(t, l, 5, 0, 0)
	if _, _, _, err := l.Ack(list(0, 0), 4); err != api.ErrTime {
		t.Errorf("ahead of the packet sent last: %d", err)
	}
}

// P21.2: what is told, and of what there is a sample. Ahead of each there were packets 2, 4 .. 12 at 1, 2 .. 6, of which 6 and 8 do not ask, and what came first.
func TestAck(t *testing.T) {
	for _, c := range []struct {
		name    string
		first   []api.Span
		spans   []api.Span
		now     int
		want    []int
		sample  int
		has     bool
		largest int
	}{
		{"one", nil, list(2, 2), 9, []int{2}, 8, true, 2},
		{"all", nil, list(0, 12), 9, []int{2, 4, 6, 8, 10, 12}, 3, true, 12},
		{"at once", nil, list(12, 12), 6, []int{12}, 0, true, 12},
		{"as late as may be", nil, list(2, 2), 1 << 40, []int{2}, 1<<40 - 1, true, 2},
		{"some, rising", nil, list(2, 2, 5, 7, 12, 12), 9, []int{2, 6, 12}, 3, true, 12},
		{"one that does not ask", nil, list(8, 8), 9, []int{8}, 0, false, 8},
		{"two that do not ask", nil, list(6, 8), 9, []int{6, 8}, 0, false, 8},
		{"one that does not ask, with one that does", nil, list(4, 4, 8, 8), 9, []int{4, 8}, 5, true, 8},
		{"one that asks, with one that does not", nil, list(8, 10), 9, []int{8, 10}, 4, true, 10},
		{"a number that was left out", nil, list(7, 7), 9, nil, 0, false, 7},
		{"a number that was left out, behind one that was sent", nil, list(2, 3), 9, []int{2}, 0, false, 3},
		{"numbers ahead of all", nil, list(0, 1), 9, nil, 0, false, 1},
		{"the same again", list(4, 4), list(4, 4), 9, nil, 0, false, 4},
		{"what is below the largest", list(10, 10), list(4, 4), 9, []int{4}, 0, false, 10},
		{"what is just below the largest, which was left out", list(11, 11), list(10, 10), 9, []int{10}, 0, false, 11},
		{"up to the largest", list(10, 10), list(4, 10), 9, []int{4, 6, 8}, 0, false, 10},
		{"up to above the largest", list(10, 10), list(4, 12), 9, []int{4, 6, 8, 12}, 3, true, 12},
		{"just above the largest", list(9, 9), list(10, 10), 9, []int{10}, 4, true, 10},
		{"above the largest, what does not ask", list(2, 2), list(6, 6), 9, []int{6}, 0, false, 6},
		{"above the largest, what does not ask, with what asked then", list(4, 4), list(4, 6), 9, []int{6}, 0, false, 6},
	} {
		l := sent(t, ask(2, 1, 9), ask(4, 2, 9), tell(6, 3, 9), tell(8, 4, 9), ask(10, 5, 9), ask(12, 6, 9))
		count := 6
		if c.first != nil {
			got, _, _, _ := l.Ack(c.first, 6)
			count -= len(got)
		}
		got, sample, has, err := l.Ack(c.spans, c.now)
		if !slices.Equal(numbers(got), c.want) || sample != c.sample || has != c.has || err != api.OK {
			t.Errorf("%s: Ack(%v, %d) = %+v, %d, %v, %d", c.name, c.spans, c.now, got, sample, has, err)
		}
		if l.Len() != count-len(c.want) {
			t.Errorf("%s: Len = %d", c.name, l.Len())
		}
		if n, is := l.Largest(); n != c.largest || !is {
			t.Errorf("%s: Largest = %d, %v", c.name, n, is)
		}
	}
}

// P21.2: what is told is as it was sent; a packet that is lost does not come, but its number counts.
func TestAckOfLost(t *testing.T) {
	l := sent(t, tell(0, 1, 7), ask(1, 2, 8), ask(2, 3, 1200), ask(3, 3, 1))
	if got := ack(t, l, 9, 0, 0, 2, 2); !slices.Equal(got, []Packet{tell(0, 1, 7), ask(2, 3, 1200)}) {
		t.Errorf("told: %+v", got)
	}
	if got := l.Lost(9, 7); !slices.Equal(got, []Packet{ask(1, 2, 8)}) {
		t.Errorf("lost: %+v", got)
	}
	got, sample, has, err := l.Ack(list(1, 1), 9)
	if len(got) != 0 || sample != 0 || has || err != api.OK {
		t.Errorf("Ack of what is lost = %+v, %d, %v, %d", got, sample, has, err)
	}
	if got := ack(t, l, 9, 0, 3); !slices.Equal(got, []Packet{ask(3, 3, 1)}) {
		t.Errorf("told: %+v", got)
	}
}

// P21.2: 64 spans, the most that may be, of which each is found.
func TestAckOfManySpans(t *testing.T) {
	l := row(t, 400)
	var spans []api.Span
	var want []int
	for i := range 64 {
		spans = append(spans, span(6*i+1, 6*i+3))
		want = append(want, 6*i+1, 6*i+2, 6*i+3)
	}
	got, sample, has, err := l.Ack(spans, 400)
	if !slices.Equal(numbers(got), want) || sample != 400-381 || !has || err != api.OK {
		t.Errorf("Ack = %v, %d, %v, %d", numbers(got), sample, has, err)
	}
	if l.Len() != 400-3*64 {
		t.Errorf("Len = %d", l.Len())
	}
}

// P21.3: packets 0 to 9 at 0, 10 .. 90, of which the odd ones do not ask; those from 6 on up to the one told came, if there is one.
func TestLost(t *testing.T) {
	for _, c := range []struct {
		name      string
		largest   int
		now, late int
		want      []int
	}{
		{"nothing came", -1, 1000, 0, nil},
		{"by number", 6, 0, 1000, []int{0, 1, 2, 3}},
		{"by number, with what is not late below it", 6, 59, 20, []int{0, 1, 2, 3}},
		{"by time", 6, 60, 20, []int{0, 1, 2, 3, 4}},
		{"just not by time", 6, 69, 20, []int{0, 1, 2, 3, 4}},
		{"all that are below", 6, 70, 20, []int{0, 1, 2, 3, 4, 5}},
		{"never those above", 6, 1 << 40, 0, []int{0, 1, 2, 3, 4, 5}},
		{"at once", 6, 50, 0, []int{0, 1, 2, 3, 4, 5}},
		{"at the time 0", 6, 0, 0, []int{0, 1, 2, 3}},
		{"as late as may be", 6, 1 << 40, 1 << 40, []int{0, 1, 2, 3}},
		{"with the largest the last one", 9, 0, 1, []int{0, 1, 2, 3, 4, 5}},
	} {
		l := New()
		for i := range 10 {
			l.Sent(Packet{Num: i, At: 10 * i, Size: 5, Asks: i%2 == 0})
		}
		count := 10
		if c.largest >= 0 {
			count -= len(ack(t, l, 90, 6, c.largest))
		}
		got := l.Lost(c.now, c.late)
		if !slices.Equal(numbers(got), c.want) {
			t.Errorf("%s: Lost(%d, %d) = %+v", c.name, c.now, c.late, got)
		}
		if l.Len() != count-len(c.want) {
			t.Errorf("%s: Len = %d", c.name, l.Len())
		}
		if got := l.Lost(c.now, c.late); len(got) != 0 {
			t.Errorf("%s: told again: %+v", c.name, got)
		}
	}
}

// P21.3: how far below the largest, whatever lies between was sent or not; and a largest that was not sent.
func TestLostByNumber(t *testing.T) {
	for largest := range 12 {
		l := sent(t, ask(0, 0, 1), ask(3, 0, 1), tell(4, 0, 1), ask(6, 0, 1), ask(11, 0, 1))
		ack(t, l, 0, largest, largest)
		var want []int
		for _, n := range []int{0, 3, 4, 6, 11} {
			if n < largest-2 {
				want = append(want, n)
			}
		}
		if got := l.Lost(0, 1); !slices.Equal(numbers(got), want) {
			t.Errorf("with the largest %d Lost = %+v", largest, got)
		}
	}
}

// P21.3: numbers that are no times.
func TestLostOfNoTimes(t *testing.T) {
	l := row(t, 10)
	ack(t, l, 9, 8, 8)
	for _, n := range noTimes {
		if a, b, c := l.Lost(n, 0), l.Lost(9, n), l.Lost(n, n); len(a)+len(b)+len(c) != 0 {
			t.Errorf("with %d: %+v, %+v, %+v", n, a, b, c)
		}
		if at, is := l.Next(n); at != 0 || is {
			t.Errorf("Next(%d) = %d, %v", n, at, is)
		}
	}
	if l.Len() != 9 || len(l.Lost(9, 0)) != 8 {
		t.Errorf("Len = %d", l.Len())
	}
}

// P21.3
func TestNext(t *testing.T) {
	next := func(l *Ledger, late, want int, wantIs bool) {
		t.Helper()
		if at, is := l.Next(late); at != want || is != wantIs {
			t.Errorf("Next(%d) = %d, %v, want %d, %v", late, at, is, want, wantIs)
		}
	}
	l := New()
	next(l, 5, 0, false)
	l = sent(t, tell(3, 30, 1), ask(4, 40, 1), ask(5, 50, 1), ask(9, 90, 1))
	next(l, 5, 0, false) // nothing came
	ack(t, l, 90, 0, 2)
	next(l, 5, 0, false) // nothing is below the largest
	ack(t, l, 90, 3, 3)
	next(l, 5, 0, false)
	l = sent(t, tell(3, 30, 1), ask(4, 40, 1), ask(5, 50, 1), ask(9, 90, 1))
	ack(t, l, 90, 4, 4)
	next(l, 0, 30, true) // one that does not ask, too
	next(l, 5, 35, true)
	next(l, 1<<40, 1<<40+30, true)
	if got := l.Lost(35, 5); len(got) != 1 { // then it is lost, indeed
		t.Errorf("Lost = %+v", got)
	}
	next(l, 5, 0, false)
	ack(t, l, 90, 9, 9)
	next(l, 5, 55, true) // one that is lost by its number already, as long as nobody asked for it
	if got := l.Lost(54, 5); !slices.Equal(numbers(got), []int{5}) {
		t.Errorf("Lost = %+v", got)
	}
	next(l, 5, 0, false)
	l = sent(t, ask(0, 1<<40, 1), ask(1, 1<<40, 1))
	ack(t, l, 1<<40, 1, 1)
	next(l, 1<<40, 1<<41, true)
}

// P21.3: ahead of what Next tells nothing more is lost, and then something is, as long as time alone counts.
func TestNextIsWhenLost(t *testing.T) {
	for late := range 8 {
		l := sent(t, ask(0, 3, 1), tell(1, 3, 1), ask(2, 7, 1))
		ack(t, l, 7, 2, 2)
		at, is := l.Next(late)
		if !is || len(l.Fork().Lost(at-1, late)) != 0 || !slices.Equal(numbers(l.Fork().Lost(at, late)), []int{0, 1}) {
			t.Errorf("Next(%d) = %d, %v", late, at, is)
		}
	}
}

// P21.4
func TestLooks(t *testing.T) {
	looks := func(l *Ledger, oldest Packet, flying, count, largest int) {
		t.Helper()
		if p, is := l.Oldest(); p != oldest || is != (oldest.Size > 0) {
			t.Errorf("Oldest = %+v, %v", p, is)
		}
		if l.Flying() != flying || l.Len() != count {
			t.Errorf("Flying = %d, Len = %d", l.Flying(), l.Len())
		}
		if n, is := l.Largest(); n != max(largest, 0) || is != (largest >= 0) {
			t.Errorf("Largest = %d, %v", n, is)
		}
	}
	l := New()
	looks(l, Packet{}, 0, 0, -1)
	l.Sent(tell(0, 1, 11))
	looks(l, Packet{}, 0, 1, -1)
	l.Sent(ask(1, 2, 100))
	looks(l, ask(1, 2, 100), 100, 2, -1)
	l.Sent(tell(2, 3, 7))
	l.Sent(ask(3, 4, 1200))
	l.Sent(ask(8, 9, 1))
	looks(l, ask(1, 2, 100), 1301, 5, -1)
	ack(t, l, 9, 0, 0)
	looks(l, ask(1, 2, 100), 1301, 4, 0)
	ack(t, l, 9, 1, 1)
	looks(l, ask(3, 4, 1200), 1201, 3, 1)
	ack(t, l, 9, 5, 5)
	looks(l, ask(3, 4, 1200), 1201, 3, 5)
	ack(t, l, 9, 4, 4)
	looks(l, ask(3, 4, 1200), 1201, 3, 5) // the largest does not fall
	l.Lost(9, 100)
	looks(l, ask(3, 4, 1200), 1201, 2, 5)
	l.Lost(9, 5)
	looks(l, ask(8, 9, 1), 1, 1, 5)
	ack(t, l, 9, 8, 8)
	looks(l, Packet{}, 0, 0, 8)
}

// P21.4: a full ledger of the greatest packets.
func TestFlyingOfMany(t *testing.T) {
	l := New()
	for i := range 1024 {
		l.Sent(ask(i, 0, 1200))
	}
	if l.Flying() != 1024*1200 || l.Len() != 1024 {
		t.Errorf("Flying = %d, Len = %d", l.Flying(), l.Len())
	}
}

// P21.1 to P21.4: of nil.
func TestNil(t *testing.T) {
	var l *Ledger
	if l.Sent(ask(0, 0, 1)) != api.ErrNil || l.Sent(ask(-1, -1, -1)) != api.ErrNil {
		t.Error("Sent")
	}
	for _, spans := range [][]api.Span{nil, list(0, 0)} {
		if got, sample, has, err := l.Ack(spans, -1); len(got) != 0 || sample != 0 || has || err != api.ErrNil {
			t.Errorf("Ack = %+v, %d, %v, %d", got, sample, has, err)
		}
	}
	if len(l.Lost(9, 0)) != 0 || l.Flying() != 0 || l.Len() != 0 || l.Fork() != nil {
		t.Error("Lost, Flying, Len, Fork")
	}
	if at, is := l.Next(0); at != 0 || is {
		t.Error("Next")
	}
	if p, is := l.Oldest(); p != (Packet{}) || is {
		t.Error("Oldest")
	}
	if n, is := l.Largest(); n != 0 || is {
		t.Error("Largest")
	}
}

// P21.4: a fork and its ledger have nothing in common, nor have they with what they told.
func TestFork(t *testing.T) {
	first := sent(t, ask(0, 0, 1), ask(1, 0, 2), ask(2, 0, 4), ask(3, 0, 8))
	ack(t, first, 0, 1, 1)
	second := first.Fork()
	third := second.Fork()
	if first.Sent(tell(4, 5, 1)) != api.OK || second.Sent(ask(7, 1, 16)) != api.OK {
		t.Error("Sent")
	}
	if !slices.Equal(numbers(open(t, first, 4)), []int{0, 2, 3, 4}) || !slices.Equal(numbers(open(t, second, 7)), []int{0, 2, 3, 7}) || !slices.Equal(numbers(open(t, third, 3)), []int{0, 2, 3}) {
		t.Errorf("open: %+v; %+v; %+v", open(t, first, 4), open(t, second, 7), open(t, third, 3))
	}
	got := ack(t, first, 5, 0, 0, 3, 3)
	more := append(got, ask(99, 99, 99))
	got[0], more[1] = ask(98, 98, 98), ask(97, 97, 97)
	lost := second.Lost(1, 0)
	lost = append(lost, ask(99, 99, 99))
	lost[0] = ask(96, 96, 96)
	if !slices.Equal(numbers(open(t, first, 4)), []int{2, 4}) || !slices.Equal(numbers(open(t, second, 7)), []int{2, 3, 7}) || !slices.Equal(numbers(open(t, third, 3)), []int{0, 2, 3}) {
		t.Errorf("open: %+v; %+v; %+v", open(t, first, 4), open(t, second, 7), open(t, third, 3))
	}
	if a, _ := first.Largest(); a != 3 {
		t.Errorf("Largest = %d", a)
	}
	if b, _ := second.Largest(); b != 1 {
		t.Errorf("Largest = %d", b)
	}
}

// New ledgers have nothing in common.
func TestNew(t *testing.T) {
	a, b := New(), New()
	a.Sent(ask(5, 5, 1))
	ack(t, a, 5, 5, 5)
	if _, is := b.Largest(); is || b.Len() != 0 || b.Sent(ask(0, 0, 1)) != api.OK {
		t.Error("what is done with one is seen of the other")
	}
}

// Spans that are handed in are not kept.
func TestSpansAreNotKept(t *testing.T) {
	l := row(t, 6)
	spans := list(1, 1, 4, 4)
	l.Ack(spans, 9)
	spans[0], spans[1] = span(2, 2), span(5, 5)
	if n, _ := l.Largest(); n != 4 || !slices.Equal(numbers(open(t, l, 5)), []int{0, 2, 3, 5}) {
		t.Errorf("Largest = %d, open: %+v", n, open(t, l, 5))
	}
}

// All short runs of some calls.
func TestShortRuns(t *testing.T) {
	calls := []func(t *testing.T, x *pair, now int){
		func(t *testing.T, x *pair, now int) { x.sent(t, ask(now, now, 3)) },
		func(t *testing.T, x *pair, now int) { x.sent(t, tell(2*now, now/2, 5)) },
		func(t *testing.T, x *pair, now int) { x.sent(t, ask(now+3, now, 7)) },
		func(t *testing.T, x *pair, now int) { x.ack(t, list(0, 0, 3, 4), now) },
		func(t *testing.T, x *pair, now int) { x.ack(t, list(2, 2), now) },
		func(t *testing.T, x *pair, now int) { x.ack(t, list(1, 6), now+1) },
		func(t *testing.T, x *pair, now int) { x.lost(t, now, 2) },
		func(t *testing.T, x *pair, now int) { x.lost(t, now, 1<<40) },
	}
	var run func(x *pair, now int)
	run = func(x *pair, now int) {
		x.hold(t)
		if now == 6 {
			return
		}
		for _, call := range calls {
			next := x.fork()
			call(t, next, now)
			run(next, now+1)
		}
	}
	run(newPair(), 0)
}

// spansByChance are spans of numbers about high, now and then ones that may not be.
func spansByChance(r *rand.Rand, high int) []api.Span {
	s := ranges.New()
	for range 1 + r.Intn(4) {
		from := high - r.Intn(12)
		s.Add(from, from+r.Intn(4))
	}
	spans := s.Spans()
	if r.Intn(20) == 0 {
		spans = append(spans, span(r.Intn(9), r.Intn(9)))
	}
	return spans
}

// Runs by chance, with forks that go on, and with times and numbers up to the greatest.
func TestByChance(t *testing.T) {
	for seed := range 300 {
		r := rand.New(rand.NewSource(int64(seed)))
		num, now, pairs := 0, 0, []*pair{newPair()}
		if seed%3 == 0 {
			num, now = 1<<40-r.Intn(300), 1<<40-r.Intn(900)
		}
		for range 200 {
			x := pairs[r.Intn(len(pairs))]
			switch k := r.Intn(20); {
			case k < 10:
				x.sent(t, Packet{Num: num + r.Intn(3) - r.Intn(2), At: now - r.Intn(2), Size: r.Intn(1300) - 10, Asks: r.Intn(3) > 0})
				num += r.Intn(3)
			case k < 15:
				x.ack(t, spansByChance(r, num), now-r.Intn(2))
			case k < 18:
				x.lost(t, now-r.Intn(3), r.Intn(30)-1)
			case k < 19 && len(pairs) < 4:
				pairs = append(pairs, x.fork())
			}
			now += r.Intn(6)
			x.hold(t)
		}
		for _, x := range pairs {
			x.hold(t)
		}
	}
}

// A long run with many open packets, of which few come.
func TestLongRun(t *testing.T) {
	r := rand.New(rand.NewSource(21))
	x := newPair()
	for i := range 3000 {
		x.sent(t, ask(i, i, 1+r.Intn(1200)))
		if r.Intn(700) == 0 {
			from := i - r.Intn(900)
			x.ack(t, list(max(from, 0), max(from+r.Intn(400), 0)), i)
			x.lost(t, i, 300)
			x.hold(t)
		}
	}
	x.hold(t)
}

// FuzzLoss takes each four bytes as a call, and holds it against the plain ledger.
func FuzzLoss(f *testing.F) {
	f.Add([]byte{0, 0, 0, 9, 0, 1, 1, 9, 2, 1, 1, 3, 3, 9, 2, 0})
	f.Add([]byte{1, 5, 5, 200, 0, 9, 5, 7, 2, 0, 3, 250, 4, 0, 0, 0, 3, 255, 0, 0})
	f.Fuzz(func(t *testing.T, b []byte) {
		x := newPair()
		for ; len(b) >= 4 && len(x.p.sent) < 60; b = b[4:] {
			a, c, d := int(b[1]), int(b[2]), int(b[3])
			switch b[0] % 6 {
			case 0, 1:
				x.sent(t, Packet{Num: a, At: c, Size: 5*d - 10, Asks: b[0]%6 == 0})
			case 2:
				x.ack(t, list(a, a+c%8), d)
			case 3:
				x.ack(t, list(a, a+c%4, a+c%4+2, a+c%4+2+d%4), 255)
			case 4:
				x.lost(t, a, c-1)
			case 5:
				x = x.fork()
			}
			x.hold(t)
		}
	})
}
