package window

import (
	"math"
	"math/rand"
	"slices"
	"testing"
)

// sizes, times, credits, counts and flights are numbers about which something changes, or an int has no room any more.
var (
	sizes   = []int{math.MinInt, -2400, -1, 0, 1200, 2399, 2400, 2401, 4799, 4800, 4801, 12000, 1<<30 - 1201, 1<<30 - 1200, 1<<30 - 1, 1 << 30, 1<<30 + 1, math.MaxInt}
	moments = []int{math.MinInt, -2, -1, 0, 1, 9, 1<<40 - 1, 1 << 40, 1<<40 + 1, math.MaxInt}
	credits = []int{math.MinInt, -1, 0, 1, 1200, 2398, 2399, 2400, 11999, 12000, 1<<30 - 2, 1<<30 - 1, 1 << 30, math.MaxInt}
	counts  = []int{math.MinInt, -1, 0, 1, 1200, 2400, 12000, 1<<20 - 1, 1 << 20, 1<<20 + 1, math.MaxInt}
	flights = []int{math.MinInt, -1, 0, 1, 2399, 2400, 2401, 12000, 1<<30 - 1, 1 << 30, 1<<30 + 1, math.MaxInt}
)

// noTimes are numbers that are no time.
var noTimes = []int{math.MinInt, -1 << 40, -1, 1<<40 + 1, math.MaxInt}

func state(size, slow, since, credit int) State {
	return State{Size: size, Slow: slow, Since: since, Credit: credit}
}

// right are states that may be.
func right() []State {
	return []State{
		state(12000, 1<<30, -1, 0),
		state(2400, 2400, -1, 0), state(2400, 2400, 1<<40, 2399), state(2400, 1<<30, 0, 2399),
		state(1<<30, 2400, 9, 1<<30-1), state(1<<30, 1<<30, 1<<40, 1<<30-1), state(1<<30, 1<<30, -1, 0),
		state(2401, 2401, 3, 2400), state(5000, 4000, 7, 4999), state(4000, 5000, 7, 1),
	}
}

// wrong are states that may not be.
func wrong() []State {
	return []State{
		{},
		state(2399, 2400, -1, 0), state(0, 2400, -1, 0), state(-1, 2400, -1, 0), state(math.MinInt, 2400, -1, 0),
		state(1<<30+1, 2400, -1, 0), state(math.MaxInt, 2400, -1, 0),
		state(2400, 2399, -1, 0), state(2400, 0, -1, 0), state(2400, -1, -1, 0), state(2400, math.MinInt, -1, 0),
		state(2400, 1<<30+1, -1, 0), state(2400, math.MaxInt, -1, 0),
		state(2400, 2400, -2, 0), state(2400, 2400, math.MinInt, 0), state(2400, 2400, 1<<40+1, 0), state(2400, 2400, math.MaxInt, 0),
		state(2400, 2400, -1, -1), state(2400, 2400, -1, math.MinInt), state(2400, 2400, -1, 2400), state(2400, 2400, -1, math.MaxInt),
		state(12000, 1<<30, -1, 12000), state(1<<30, 1<<30, -1, 1<<30), state(1200, 2400, -1, 2000),
		state(math.MinInt, math.MinInt, math.MinInt, math.MinInt), state(math.MaxInt, math.MaxInt, math.MaxInt, math.MaxInt),
	}
}

// plainCheck is P22.1's Check, word by word.
func plainCheck(s State) bool {
	if s.Size < 2*1200 || s.Size > 1073741824 {
		return false
	}
	if s.Slow < 2*1200 || s.Slow > 1073741824 {
		return false
	}
	if s.Since < -1 || s.Since > 1099511627776 {
		return false
	}
	return s.Credit >= 0 && s.Credit <= s.Size-1
}

// plainAcked is P22.2, word by word.
func plainAcked(s State, bytes, sent int) State {
	if !plainCheck(s) || bytes < 0 || bytes > 1048576 || !(sent > s.Since) {
		return s
	}
	next := s
	if s.Size < s.Slow {
		next.Size = s.Size + bytes
	} else {
		next.Credit = s.Credit + bytes
		if !(next.Credit < s.Size) {
			next.Credit = next.Credit - s.Size
			next.Size = s.Size + 1200
		}
	}
	if next.Size > 1073741824 {
		next.Size = 1073741824
	}
	if next.Credit > next.Size-1 {
		next.Credit = next.Size - 1
	}
	return next
}

// plainLost is P22.3's Lost, word by word.
func plainLost(s State, sent, now int) State {
	if !plainCheck(s) || now < 0 || now > 1099511627776 || !(sent > s.Since) {
		return s
	}
	half := s.Size / 2
	if half < 2400 {
		half = 2400
	}
	return state(half, half, now, 0)
}

// plainCollapsed is P22.3's Collapsed, word by word.
func plainCollapsed(s State) State {
	if plainCheck(s) {
		s.Size, s.Since, s.Credit = 2400, -1, 0
	}
	return s
}

// plainRoom is P22.4, word by word.
func plainRoom(s State, flying int) int {
	if !plainCheck(s) || flying < 0 || flying > s.Size {
		return 0
	}
	return s.Size - flying
}

// hold holds all that is told of a state against the plain ones, and P22.5's first half.
func hold(t *testing.T, s State, bytes, sent, now, flying int) {
	t.Helper()
	may := plainCheck(s)
	if Check(s) != may {
		t.Fatalf("Check(%+v) = %v", s, !may)
	}
	acked, lost, collapsed := Acked(s, bytes, sent), Lost(s, sent, now), Collapsed(s)
	if want := plainAcked(s, bytes, sent); acked != want {
		t.Fatalf("Acked(%+v, %d, %d) = %+v, want %+v", s, bytes, sent, acked, want)
	}
	if want := plainLost(s, sent, now); lost != want {
		t.Fatalf("Lost(%+v, %d, %d) = %+v, want %+v", s, sent, now, lost, want)
	}
	if want := plainCollapsed(s); collapsed != want {
		t.Fatalf("Collapsed(%+v) = %+v, want %+v", s, collapsed, want)
	}
	if got, want := Room(s, flying), plainRoom(s, flying); got != want {
		t.Fatalf("Room(%+v, %d) = %d, want %d", s, flying, got, want)
	}
	if Check(acked) != may || Check(lost) != may || Check(collapsed) != may {
		t.Fatalf("of %+v: acked %+v, lost %+v, collapsed %+v: a state that may be does not stay one", s, acked, lost, collapsed)
	}
}

// The chapter's example.
func TestExample(t *testing.T) {
	s := New()
	if s.Size != 12000 {
		t.Errorf("New: %+v", s)
	}
	if s = Acked(s, 1200, 0); s.Size != 13200 {
		t.Errorf("Acked(1200): %+v", s)
	}
	if s = Lost(s, 5, 9); s.Size != 6600 || s.Slow != 6600 || s.Since != 9 {
		t.Errorf("Lost(5, 9): %+v", s)
	}
	if got := Lost(s, 9, 12); got != s {
		t.Errorf("Lost(9, 12): %+v", got)
	}
}

// P22.1
func TestNew(t *testing.T) {
	if s := New(); s != state(12000, 1<<30, -1, 0) || !Check(s) {
		t.Errorf("New: %+v, Check: %v", s, Check(s))
	}
	s := New()
	s.Size = 1
	if New() != state(12000, 1<<30, -1, 0) {
		t.Errorf("New behind a change of an earlier one: %+v", New())
	}
}

// P22.1
func TestCheck(t *testing.T) {
	for _, s := range right() {
		if !Check(s) {
			t.Errorf("Check(%+v) is false", s)
		}
	}
	for _, s := range wrong() {
		if Check(s) {
			t.Errorf("Check(%+v) is true", s)
		}
	}
}

// P22.2
func TestAcked(t *testing.T) {
	for _, c := range []struct {
		name        string
		s           State
		bytes, sent int
		want        State
	}{
		{"slow: a packet", New(), 1200, 0, state(13200, 1<<30, -1, 0)},
		{"slow: nothing", New(), 0, 0, New()},
		{"slow: a byte", New(), 1, 0, state(12001, 1<<30, -1, 0)},
		{"slow: as much as may be", New(), 1 << 20, 0, state(12000+1<<20, 1<<30, -1, 0)},
		{"slow: up to Slow", state(2400, 3600, -1, 0), 1200, 0, state(3600, 3600, -1, 0)},
		{"slow: one below Slow, beyond it", state(3599, 3600, -1, 0), 1200, 0, state(4799, 3600, -1, 0)},
		{"slow: the credit stays", state(2400, 3600, -1, 2399), 1200, 0, state(3600, 3600, -1, 2399)},
		{"slow: up to the bound", state(1<<30-1200, 1<<30, -1, 0), 1200, 0, state(1<<30, 1<<30, -1, 0)},
		{"slow: no more than the bound", state(1<<30-1199, 1<<30, -1, 7), 1200, 0, state(1<<30, 1<<30, -1, 7)},
		{"slow: one below the bound", state(1<<30-1, 1<<30, -1, 1<<30-2), 1 << 20, 0, state(1<<30, 1<<30, -1, 1<<30-2)},

		{"steady: nothing", state(3600, 3600, -1, 5), 0, 0, state(3600, 3600, -1, 5)},
		{"steady: a packet", state(3600, 3600, -1, 0), 1200, 0, state(3600, 3600, -1, 1200)},
		{"steady: above Slow", state(3601, 3600, -1, 0), 1200, 0, state(3601, 3600, -1, 1200)},
		{"steady: one below Size", state(3600, 3600, -1, 2400), 1199, 0, state(3600, 3600, -1, 3599)},
		{"steady: Size", state(3600, 3600, -1, 2400), 1200, 0, state(4800, 3600, -1, 0)},
		{"steady: Size at once", state(3600, 3600, -1, 0), 3600, 0, state(4800, 3600, -1, 0)},
		{"steady: one above Size", state(3600, 3600, -1, 3599), 2, 0, state(4800, 3600, -1, 1)},
		{"steady: twice Size, grown once", state(3600, 3600, -1, 0), 7200, 0, state(4800, 3600, -1, 3600)},
		{"steady: what is left fills the new Size but for one", state(3600, 3600, -1, 0), 3600 + 4799, 0, state(4800, 3600, -1, 4799)},
		{"steady: what is left would fill the new Size", state(3600, 3600, -1, 0), 3600 + 4800, 0, state(4800, 3600, -1, 4799)},
		{"steady: as much as may be", state(2400, 2400, -1, 2399), 1 << 20, 0, state(3600, 2400, -1, 3599)},
		{"steady: up to the bound", state(1<<30-1200, 2400, -1, 1<<30-1201), 1, 0, state(1<<30, 2400, -1, 0)},
		{"steady: no more than the bound", state(1<<30-1, 2400, -1, 1<<30-2), 1, 0, state(1<<30, 2400, -1, 0)},
		{"steady: at the bound", state(1<<30, 1<<30, -1, 1<<30-1), 1 << 20, 0, state(1<<30, 1<<30, -1, 1<<20-1)},

		{"sent behind Since", state(3600, 3600, 9, 0), 1200, 10, state(3600, 3600, 9, 1200)},
		{"sent far behind Since", state(2400, 3600, 9, 0), 1200, math.MaxInt, state(3600, 3600, 9, 0)},
		{"sent behind the greatest time", state(2400, 3600, 1<<40, 0), 1200, 1<<40 + 1, state(3600, 3600, 1<<40, 0)},
		{"sent at Since", state(3600, 3600, 9, 0), 1200, 9, state(3600, 3600, 9, 0)},
		{"sent ahead of Since", state(3600, 3600, 9, 0), 1200, 8, state(3600, 3600, 9, 0)},
		{"sent at Since, slow", state(2400, 3600, 9, 0), 1200, 9, state(2400, 3600, 9, 0)},
		{"sent at -1", New(), 1200, -1, New()},
		{"sent far ahead of all", New(), 1200, math.MinInt, New()},
	} {
		if got := Acked(c.s, c.bytes, c.sent); got != c.want {
			t.Errorf("%s: Acked(%+v, %d, %d) = %+v, want %+v", c.name, c.s, c.bytes, c.sent, got, c.want)
		}
	}
}

// P22.2: what may not be acknowledged, or of no state that may be, changes nothing.
func TestNotAcked(t *testing.T) {
	for _, s := range right() {
		for _, bytes := range []int{math.MinInt, -1200, -1, 1<<20 + 1, math.MaxInt} {
			if got := Acked(s, bytes, math.MaxInt); got != s {
				t.Errorf("Acked(%+v, %d) = %+v", s, bytes, got)
			}
		}
	}
	for _, s := range wrong() {
		for _, bytes := range counts {
			if got := Acked(s, bytes, math.MaxInt); got != s {
				t.Errorf("Acked(%+v, %d) = %+v", s, bytes, got)
			}
		}
	}
}

// P22.3
func TestLost(t *testing.T) {
	for _, c := range []struct {
		name      string
		s         State
		sent, now int
		want      State
	}{
		{"the first one", New(), 0, 0, state(6000, 6000, 0, 0)},
		{"at the greatest time", New(), 5, 1 << 40, state(6000, 6000, 1<<40, 0)},
		{"the credit goes", state(12000, 6000, 3, 11999), 4, 9, state(6000, 6000, 9, 0)},
		{"half is rounded down", state(12001, 6000, 3, 1), 4, 9, state(6000, 6000, 9, 0)},
		{"Slow goes up, too", state(12000, 2400, 3, 1), 4, 9, state(6000, 6000, 9, 0)},
		{"half is two packets", state(4800, 2400, 3, 1), 4, 9, state(2400, 2400, 9, 0)},
		{"half is above two packets", state(4802, 2400, 3, 1), 4, 9, state(2401, 2401, 9, 0)},
		{"half is below two packets", state(4799, 2400, 3, 1), 4, 9, state(2400, 2400, 9, 0)},
		{"two packets", state(2400, 1<<30, -1, 2399), 4, 9, state(2400, 2400, 9, 0)},
		{"as great as may be", state(1<<30, 1<<30, -1, 1<<30-1), 4, 9, state(1<<29, 1<<29, 9, 0)},
		{"one below that", state(1<<30-1, 1<<30, -1, 0), 4, 9, state(1<<29-1, 1<<29-1, 9, 0)},
		{"told ahead of Since", state(12000, 6000, 9, 1), 10, 3, state(6000, 6000, 3, 0)},
		{"sent behind now", New(), math.MaxInt, 3, state(6000, 6000, 3, 0)},

		{"sent at Since", state(12000, 6000, 9, 1), 9, 12, state(12000, 6000, 9, 1)},
		{"sent ahead of Since", state(12000, 6000, 9, 1), 8, 12, state(12000, 6000, 9, 1)},
		{"sent one behind Since", state(12000, 6000, 9, 1), 10, 12, state(6000, 6000, 12, 0)},
		{"sent at -1", New(), -1, 12, New()},
		{"sent far ahead of all", New(), math.MinInt, 12, New()},
		{"sent at the greatest time, in recovery", state(12000, 6000, 1<<40, 1), 1 << 40, 1 << 40, state(12000, 6000, 1<<40, 1)},
		{"sent behind the greatest time", state(12000, 6000, 1<<40, 1), 1<<40 + 1, 1 << 40, state(6000, 6000, 1<<40, 0)},
	} {
		if got := Lost(c.s, c.sent, c.now); got != c.want {
			t.Errorf("%s: Lost(%+v, %d, %d) = %+v, want %+v", c.name, c.s, c.sent, c.now, got, c.want)
		}
	}
}

// P22.3: what is told at no time, or of no state that may be, changes nothing.
func TestNotLost(t *testing.T) {
	for _, s := range right() {
		for _, now := range noTimes {
			if got := Lost(s, math.MaxInt, now); got != s {
				t.Errorf("Lost(%+v, now %d) = %+v", s, now, got)
			}
		}
	}
	for _, s := range wrong() {
		for _, now := range moments {
			if got := Lost(s, math.MaxInt, now); got != s {
				t.Errorf("Lost(%+v, now %d) = %+v", s, now, got)
			}
		}
	}
}

// P22.3
func TestCollapsed(t *testing.T) {
	for _, s := range right() {
		if got := Collapsed(s); got != state(2400, s.Slow, -1, 0) {
			t.Errorf("Collapsed(%+v) = %+v", s, got)
		}
	}
	for _, s := range wrong() {
		if got := Collapsed(s); got != s {
			t.Errorf("Collapsed(%+v) = %+v", s, got)
		}
	}
}

// P22.4
func TestRoom(t *testing.T) {
	for _, c := range []struct {
		s            State
		flying, want int
	}{
		{New(), 0, 12000}, {New(), 1, 11999}, {New(), 11999, 1}, {New(), 12000, 0}, {New(), 12001, 0}, {New(), math.MaxInt, 0},
		{New(), -1, 0}, {New(), math.MinInt, 0},
		{state(2400, 2400, 9, 2399), 0, 2400}, {state(1<<30, 2400, 9, 5), 0, 1 << 30}, {state(1<<30, 2400, 9, 5), 1<<30 - 1, 1}, {state(1<<30, 2400, 9, 5), 1 << 30, 0},
	} {
		if got := Room(c.s, c.flying); got != c.want {
			t.Errorf("Room(%+v, %d) = %d, want %d", c.s, c.flying, got, c.want)
		}
	}
	for _, s := range wrong() {
		for _, flying := range flights {
			if got := Room(s, flying); got != 0 {
				t.Errorf("Room(%+v, %d) = %d", s, flying, got)
			}
		}
	}
}

// P22.5: what was sent up to the time of a loss halves the window once, whenever it is told; what is sent behind it halves it again.
func TestOneRecovery(t *testing.T) {
	for _, s := range right() {
		for _, now := range []int{0, 1, 9, 1<<40 - 1, 1 << 40} {
			once := Lost(s, s.Since+1, now)
			if half := max(s.Size/2, 2400); once != state(half, half, now, 0) {
				t.Fatalf("Lost(%+v, %d, %d) = %+v", s, s.Since+1, now, once)
			}
			for _, sent := range []int{math.MinInt, -1, 0, now - 1, now} {
				for _, then := range []int{0, now, 1 << 40} {
					if got := Lost(once, min(sent, now), then); got != once {
						t.Errorf("of %+v, lost again of %d at %d: %+v", once, sent, then, got)
					}
				}
			}
			if got := Lost(once, now+1, now); got.Size != max(once.Size/2, 2400) {
				t.Errorf("of %+v, lost of %d: %+v", once, now+1, got)
			}
		}
	}
}

// P22.5: by runs: the window is smaller behind a loss only if the packet went behind the last loss that counted, or if all collapsed meanwhile.
func TestRunsOfLosses(t *testing.T) {
	r := rand.New(rand.NewSource(225))
	for range 3000 {
		s, since, now := New(), -1, 0
		for range 60 {
			now += r.Intn(4)
			sent := max(now-r.Intn(12), 0)
			before := s
			switch r.Intn(20) {
			case 0:
				s, since = Collapsed(s), -1
			case 1, 2, 3, 4:
				s = Lost(s, sent, now)
				want := before
				if sent > since {
					half := max(before.Size/2, 2400)
					want, since = state(half, half, now, 0), now
				}
				if s != want {
					t.Fatalf("Lost(%+v, %d, %d) = %+v, want %+v", before, sent, now, s, want)
				}
			default:
				s = Acked(s, r.Intn(3)*1200, sent)
				if s.Size < before.Size || s.Since != before.Since || s.Slow != before.Slow {
					t.Fatalf("Acked(%+v) = %+v", before, s)
				}
				if sent <= since && s != before {
					t.Fatalf("Acked(%+v, sent %d) = %+v", before, sent, s)
				}
			}
			if !Check(s) {
				t.Fatalf("%+v may not be", s)
			}
		}
	}
}

// A window that is steady grows by a packet for each whole window that came, however it comes (as long as no acknowledgement is of more than the window).
func TestSteady(t *testing.T) {
	for _, bytes := range []int{1, 7, 600, 1200, 2400} {
		s := state(2400, 2400, 3, 0)
		came, need := 0, 0
		for range 200000 / bytes {
			s = Acked(s, bytes, 4)
			if came += bytes; came >= need+2400 {
				came, need = came-need-2400, need+1200
			}
			if want := state(2400+need, 2400, 3, came); s != want {
				t.Fatalf("by %d bytes: %+v, want %+v", bytes, s, want)
			}
		}
	}
}

// All of the edges.
func TestEdges(t *testing.T) {
	for _, size := range sizes {
		for _, slow := range sizes {
			for _, since := range moments {
				for _, credit := range slices.Concat(credits, []int{size - 1, size}) {
					s := state(size, slow, since, credit)
					for n, bytes := range counts {
						hold(t, s, bytes, since, moments[n%len(moments)], flights[n])
						hold(t, s, bytes, since+1, moments[n%len(moments)], flights[n])
					}
					for n, sent := range moments {
						hold(t, s, 1200, sent, moments[len(moments)-1-n], size+n-4)
					}
				}
			}
		}
	}
}

// States and arguments by chance, many of them at an edge.
func TestByChance(t *testing.T) {
	r := rand.New(rand.NewSource(22))
	number := func(of []int) int {
		switch r.Intn(4) {
		case 0:
			return of[r.Intn(len(of))]
		case 1:
			return r.Intn(1<<30 + 1)
		case 2:
			return r.Intn(1 << 13)
		}
		return r.Intn(40) - 2
	}
	for range 200000 {
		s := state(number(sizes), number(sizes), number(moments), number(credits))
		if r.Intn(4) > 0 {
			s = state(2400+r.Intn(1<<uint(1+r.Intn(20))), 2400+r.Intn(1<<uint(1+r.Intn(20))), r.Intn(40)-1, r.Intn(2400))
		}
		hold(t, s, number(counts), number(moments), number(moments), number(flights))
	}
}

// All short runs of some calls, from the first state on and from one that is steady.
func TestShortRuns(t *testing.T) {
	for _, s := range []State{New(), state(2400, 2400, 1, 2399)} {
		run(t, s, s, 5)
	}
}

// run holds each step from a state on against the plain one.
func run(t *testing.T, s, plain State, steps int) {
	t.Helper()
	if s != plain || !Check(s) {
		t.Fatalf("%+v, want %+v", s, plain)
	}
	if steps == 0 {
		return
	}
	run(t, Collapsed(s), plainCollapsed(plain), steps-1)
	for _, bytes := range []int{-1, 1, 1200, 4800, 1 << 20} {
		for _, sent := range []int{1, 3} {
			run(t, Acked(s, bytes, sent), plainAcked(plain, bytes, sent), steps-1)
		}
	}
	for _, sent := range []int{1, 2, 3} {
		for _, now := range []int{-1, 2} {
			run(t, Lost(s, sent, now), plainLost(plain, sent, now), steps-1)
		}
	}
}

func FuzzWindow(f *testing.F) {
	f.Add(12000, 1<<30, -1, 0, 1200, 0, 9, 13000)
	f.Add(6600, 6600, 9, 6000, 1200, 10, 12, 600)
	f.Add(2400, 2400, 1<<40, 2399, 1<<20, 1<<40, 1<<40, 2400)
	f.Add(math.MinInt, math.MaxInt, -2, -1, -1, math.MinInt, math.MaxInt, -1)
	f.Fuzz(func(t *testing.T, size, slow, since, credit, bytes, sent, now, flying int) {
		hold(t, state(size, slow, since, credit), bytes, sent, now, flying)
	})
}
