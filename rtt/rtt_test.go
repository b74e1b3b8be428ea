package rtt

import (
	"math"
	"math/big"
	"math/rand"
	"testing"

	"sumpter/api"
)

// edges are numbers about which something changes, or an int has no room any more.
var edges = []int{
	math.MinInt, math.MinInt + 1, -api.MaxTime, -1, 0, 1, 2, 7, 8, 9, 13107, 65535, 65536, 65537,
	api.MaxTime / 2, api.MaxTime - 1, api.MaxTime, api.MaxTime + 1, math.MaxInt / 9, math.MaxInt - 1, math.MaxInt,
}

func known(latest, least, smooth, vary int) State {
	return State{Has: true, Latest: latest, Min: least, Smooth: smooth, Var: vary}
}

// wrong are states that may not be.
func wrong() []State {
	return []State{
		{Latest: 1}, {Min: 1}, {Smooth: 1}, {Var: 1},
		{Latest: -1}, {Min: -1}, {Smooth: -1}, {Var: -1},
		{Latest: 10, Min: 10, Smooth: 10, Var: 5},
		known(-1, -1, 0, 0), known(0, -1, 0, 0), known(0, 0, -1, 0), known(0, 0, 0, -1),
		known(api.MaxTime+1, 0, 0, 0), known(api.MaxTime+1, api.MaxTime+1, 0, 0),
		known(0, 0, api.MaxTime+1, 0), known(0, 0, 0, api.MaxTime+1),
		known(0, 1, 0, 0), known(9, 10, 10, 5), known(api.MaxTime-1, api.MaxTime, 0, 0),
		known(math.MaxInt, 0, math.MaxInt, math.MaxInt), known(math.MinInt, math.MinInt, math.MinInt, math.MinInt),
	}
}

// right are states that may be.
func right() []State {
	return []State{
		{},
		known(0, 0, 0, 0), known(10, 10, 10, 5), known(18, 10, 10, 5), known(5, 5, 80, 0), known(1, 0, 0, 0),
		known(api.MaxTime, api.MaxTime, api.MaxTime, api.MaxTime), known(api.MaxTime, 0, 0, 0), known(0, 0, api.MaxTime, 0), known(0, 0, 0, api.MaxTime),
	}
}

// plainTime tells whether a number is from 0 to 2^40.
func plainTime(n int) bool { return n >= 0 && n < 1<<40+1 }

// plainCheck is P20.3, word by word.
func plainCheck(s State) bool {
	if !s.Has {
		return s.Latest == 0 && s.Min == 0 && s.Smooth == 0 && s.Var == 0
	}
	for _, n := range []int{s.Latest, s.Min, s.Smooth, s.Var} {
		if !plainTime(n) {
			return false
		}
	}
	return !(s.Min > s.Latest)
}

// plainSample is P20.1, word by word.
func plainSample(s State, latest, delay int) State {
	if !plainTime(latest) || !plainTime(delay) {
		return s
	}
	if !plainCheck(s) {
		return plainSample(State{}, latest, delay)
	}
	if !s.Has {
		return known(latest, latest, latest, latest/2)
	}
	next := State{Has: true, Latest: latest, Min: s.Min}
	if latest < s.Min {
		next.Min = latest
	}
	way := latest
	if !(latest-delay < next.Min) {
		way = latest - delay
	}
	far := s.Smooth - way
	if far < 0 {
		far = -far
	}
	next.Var = part(sum(times(3, s.Var), whole(far)), 4)
	next.Smooth = part(sum(times(7, s.Smooth), whole(way)), 8)
	return next
}

// plainProbe is P20.2's Probe, word by word.
func plainProbe(s State, count int) int {
	if count < 0 {
		count = 0
	}
	if count > 16 {
		count = 16
	}
	wait := whole(16)
	if s.Has && plainCheck(s) {
		spread := times(4, s.Var)
		if spread.Cmp(whole(1)) < 0 {
			spread = whole(1)
		}
		wait = sum(whole(s.Smooth), spread)
	}
	for range count {
		wait = sum(wait, wait)
	}
	if wait.Cmp(whole(65536)) > 0 {
		return 65536
	}
	return int(wait.Int64())
}

// plainLate is P20.2's Late, word by word; a state that may not be counts as one without a sample.
func plainLate(s State) int {
	if !s.Has || !plainCheck(s) {
		return 18
	}
	greater := s.Latest
	if s.Smooth > greater {
		greater = s.Smooth
	}
	late := part(times(9, greater), 8)
	if late < 1 {
		return 1
	}
	return late
}

func whole(n int) *big.Int       { return big.NewInt(int64(n)) }
func sum(a, b *big.Int) *big.Int { return new(big.Int).Add(a, b) }
func times(n, m int) *big.Int    { return new(big.Int).Mul(whole(n), whole(m)) }

// part is a quotient, rounded down.
func part(a *big.Int, n int) int { return int(new(big.Int).Div(a, whole(n)).Int64()) }

// hold holds all that is told of a state against the plain ones.
func hold(t *testing.T, s State, latest, delay, count int) {
	t.Helper()
	if got, want := Check(s), plainCheck(s); got != want {
		t.Fatalf("Check(%+v) = %v", s, got)
	}
	if got, want := Sample(s, latest, delay), plainSample(s, latest, delay); got != want {
		t.Fatalf("Sample(%+v, %d, %d) = %+v, want %+v", s, latest, delay, got, want)
	}
	if got, want := Probe(s, count), plainProbe(s, count); got != want {
		t.Fatalf("Probe(%+v, %d) = %d, want %d", s, count, got, want)
	}
	if got, want := Late(s), plainLate(s); got != want {
		t.Fatalf("Late(%+v) = %d, want %d", s, got, want)
	}
	// P20.4
	if plainCheck(s) && !Check(Sample(s, latest, delay)) {
		t.Fatalf("Sample(%+v, %d, %d) = %+v, which may not be", s, latest, delay, Sample(s, latest, delay))
	}
}

// The chapter's example.
func TestExample(t *testing.T) {
	s := Sample(State{}, 10, 0)
	if s != known(10, 10, 10, 5) {
		t.Errorf("the first sample: %+v", s)
	}
	if Probe(s, 0) != 30 || Late(s) != 11 {
		t.Errorf("Probe = %d, Late = %d", Probe(s, 0), Late(s))
	}
	if s = Sample(s, 18, 2); s != known(18, 10, 10, 5) {
		t.Errorf("the second sample: %+v", s)
	}
}

// P20.1: the first sample, whatever the delay.
func TestFirstSample(t *testing.T) {
	for _, c := range []struct {
		latest int
		want   State
	}{
		{0, known(0, 0, 0, 0)},
		{1, known(1, 1, 1, 0)},
		{2, known(2, 2, 2, 1)},
		{3, known(3, 3, 3, 1)},
		{1000, known(1000, 1000, 1000, 500)},
		{1<<40 - 1, known(1<<40-1, 1<<40-1, 1<<40-1, 1<<39-1)},
		{1 << 40, known(1<<40, 1<<40, 1<<40, 1<<39)},
	} {
		for _, delay := range []int{0, 1, 5, 1 << 40} {
			if got := Sample(State{}, c.latest, delay); got != c.want {
				t.Errorf("Sample(zero, %d, %d) = %+v, want %+v", c.latest, delay, got, c.want)
			}
		}
	}
}

// P20.1: a sample behind others.
func TestNextSample(t *testing.T) {
	for _, c := range []struct {
		name          string
		s             State
		latest, delay int
		want          State
	}{
		{"no delay", known(10, 10, 10, 5), 18, 0, known(18, 10, 11, 5)},
		{"a delay down to Min", known(10, 10, 10, 5), 18, 8, known(18, 10, 10, 3)},
		{"a delay to one below Min", known(10, 10, 10, 5), 18, 9, known(18, 10, 11, 5)},
		{"a delay above the sample", known(10, 10, 10, 5), 18, 19, known(18, 10, 11, 5)},
		{"the greatest delay", known(10, 10, 10, 5), 18, 1 << 40, known(18, 10, 11, 5)},
		{"a sample of Min", known(18, 10, 10, 5), 10, 0, known(10, 10, 10, 3)},
		{"a sample of Min with a delay", known(18, 10, 10, 5), 10, 1, known(10, 10, 10, 3)},
		{"one below Min", known(18, 10, 10, 5), 9, 0, known(9, 9, 9, 4)},
		{"one below Min with a delay", known(18, 10, 10, 5), 9, 1, known(9, 9, 9, 4)},
		{"a sample of nothing", known(18, 10, 10, 5), 0, 0, known(0, 0, 8, 6)},
		{"a way of nothing", known(3, 0, 8, 0), 3, 3, known(3, 0, 7, 2)},
		{"Var is told ahead of Smooth", known(100, 100, 100, 0), 200, 0, known(200, 100, 112, 25)},
		{"Min stays, what Smooth may be", known(100, 90, 0, 0), 100, 10, known(100, 90, 11, 22)},
		{"quotients are rounded down", known(1, 1, 1, 1), 1, 0, known(1, 1, 1, 0)},
		{"seven eighths rounded down", known(1, 0, 1, 3), 0, 0, known(0, 0, 0, 2)},
		{"all as great as may be", known(1<<40, 1<<40, 1<<40, 1<<40), 1 << 40, 0, known(1<<40, 1<<40, 1<<40, 3<<38)},
		{"as far apart as may be, up", known(1<<40, 0, 0, 1<<40), 1 << 40, 0, known(1<<40, 0, 1<<37, 1<<40)},
		{"as far apart as may be, down", known(1<<40, 0, 1<<40, 1<<40), 1 << 40, 1 << 40, known(1<<40, 0, 7<<37, 1<<40)},
	} {
		if got := Sample(c.s, c.latest, c.delay); got != c.want {
			t.Errorf("%s: Sample(%+v, %d, %d) = %+v, want %+v", c.name, c.s, c.latest, c.delay, got, c.want)
		}
	}
}

// P20.1: a sample or a delay that is no time leaves the state as it is, whatever it is.
func TestNoSample(t *testing.T) {
	for _, s := range append(right(), wrong()...) {
		for _, n := range []int{math.MinInt, -1 << 40, -1, 1<<40 + 1, math.MaxInt} {
			for _, good := range []int{0, 7, 1 << 40} {
				if got := Sample(s, n, good); got != s {
					t.Errorf("Sample(%+v, %d, %d) = %+v", s, n, good, got)
				}
				if got := Sample(s, good, n); got != s {
					t.Errorf("Sample(%+v, %d, %d) = %+v", s, good, n, got)
				}
			}
			if got := Sample(s, n, n); got != s {
				t.Errorf("Sample(%+v, %d, %d) = %+v", s, n, n, got)
			}
		}
	}
}

// P20.1: a sample of a state that may not be is the first one.
func TestSampleOfWrong(t *testing.T) {
	for _, s := range wrong() {
		if got := Sample(s, 21, 4); got != known(21, 21, 21, 10) {
			t.Errorf("Sample(%+v, 21, 4) = %+v", s, got)
		}
	}
}

// P20.2
func TestProbe(t *testing.T) {
	for _, c := range []struct {
		s     State
		count int
		want  int
	}{
		{State{}, 0, 16}, {State{}, 1, 32}, {State{}, 11, 32768}, {State{}, 12, 65536}, {State{}, 13, 65536}, {State{}, 16, 65536}, {State{}, 17, 65536},
		{State{}, -1, 16}, {State{}, math.MinInt, 16}, {State{}, math.MaxInt, 65536},
		{known(0, 0, 0, 0), 0, 1}, {known(0, 0, 0, 0), 1, 2}, {known(0, 0, 0, 0), 15, 32768}, {known(0, 0, 0, 0), 16, 65536}, {known(0, 0, 0, 0), 17, 65536}, {known(0, 0, 0, 0), 99, 65536},
		{known(1, 0, 0, 0), 0, 1}, {known(0, 0, 1, 0), 0, 2}, {known(0, 0, 0, 1), 0, 4}, {known(0, 0, 1, 1), 0, 5},
		{known(47, 47, 47, 0), 0, 48}, {known(47, 47, 47, 0), -1, 48}, {known(47, 47, 47, 0), 2, 192}, {known(47, 47, 47, 0), 10, 49152}, {known(47, 47, 47, 0), 11, 65536}, {known(47, 47, 47, 1), 2, 204},
		{known(10, 10, 10, 5), -1, 30}, {known(10, 10, 10, 5), 0, 30}, {known(10, 10, 10, 5), 1, 60}, {known(10, 10, 10, 5), 2, 120}, {known(10, 10, 10, 5), 11, 61440}, {known(10, 10, 10, 5), 12, 65536},
		{known(0, 0, 65534, 0), 0, 65535}, {known(0, 0, 65535, 0), 0, 65536}, {known(0, 0, 65536, 0), 0, 65536}, {known(0, 0, 65537, 0), 0, 65536}, {known(0, 0, 0, 16384), 0, 65536}, {known(0, 0, 3, 16383), 0, 65535},
		{known(1<<40, 1<<40, 1<<40, 0), 0, 65536}, {known(1<<40, 0, 0, 0), 0, 1},
		{known(1<<40, 1<<40, 1<<40, 1<<40), 0, 65536}, {known(1<<40, 1<<40, 1<<40, 1<<40), 16, 65536}, {known(1<<40, 1<<40, 1<<40, 1<<40), math.MaxInt, 65536},
	} {
		if got := Probe(c.s, c.count); got != c.want {
			t.Errorf("Probe(%+v, %d) = %d, want %d", c.s, c.count, got, c.want)
		}
	}
	for _, s := range wrong() {
		if Probe(s, 0) != 16 || Probe(s, 3) != 128 || Probe(s, 16) != 65536 {
			t.Errorf("Probe of %+v = %d, %d, %d", s, Probe(s, 0), Probe(s, 3), Probe(s, 16))
		}
	}
}

// P20.2: it is 4 Var that counts as at least 1, not the sum with Smooth: so it is always waited longer than Smooth.
func TestProbeAboveSmooth(t *testing.T) {
	for smooth := range 300 {
		for vary := range 5 {
			spread := []int{1, 4, 8, 12, 16}[vary]
			s := known(smooth, 0, smooth, vary)
			if got := Probe(s, 0); got != smooth+spread {
				t.Errorf("Probe(%+v, 0) = %d, want %d", s, got, smooth+spread)
			}
		}
	}
	// A way that does not vary comes to such a state by samples alone.
	s := State{}
	for range 60 {
		s = Sample(s, 47, 0)
	}
	if s != known(47, 47, 47, 0) || Probe(s, 0) != 48 {
		t.Errorf("behind samples of 47: %+v, Probe = %d", s, Probe(s, 0))
	}
}

// P20.2
func TestLate(t *testing.T) {
	for _, c := range []struct {
		s    State
		want int
	}{
		{State{}, 18},
		{known(0, 0, 0, 0), 1}, {known(1, 0, 0, 0), 1}, {known(0, 0, 1, 0), 1}, {known(2, 2, 0, 9), 2},
		{known(7, 7, 7, 0), 7}, {known(8, 8, 8, 0), 9}, {known(15, 8, 8, 0), 16}, {known(16, 8, 8, 0), 18},
		{known(10, 10, 80, 0), 90}, {known(80, 10, 10, 0), 90}, {known(80, 80, 79, 100), 90},
		{known(1<<40, 1<<40, 1<<40, 1<<40), 9 << 37}, {known(1<<40-1, 0, 0, 0), 9<<37 - 2}, {known(0, 0, 1<<40, 0), 9 << 37},
	} {
		if got := Late(c.s); got != c.want {
			t.Errorf("Late(%+v) = %d, want %d", c.s, got, c.want)
		}
	}
	for _, s := range wrong() {
		if got := Late(s); got != 18 {
			t.Errorf("Late(%+v) = %d", s, got)
		}
	}
}

// P20.3
func TestCheck(t *testing.T) {
	for _, s := range right() {
		if !Check(s) {
			t.Errorf("Check(%+v) is false", s)
		}
	}
	for _, s := range wrong() {
		if Check(s) {
			t.Errorf("Check(%+v) is true", s)
		}
	}
}

// All small states, samples and delays.
func TestSmall(t *testing.T) {
	for n := range 2 * 7 * 7 * 7 * 7 {
		s := State{Has: n%2 == 1, Latest: n/2%7 - 1, Min: n/14%7 - 1, Smooth: n/98%7 - 1, Var: n/686%7 - 1}
		for latest := -1; latest < 8; latest++ {
			for delay := -1; delay < 8; delay++ {
				hold(t, s, latest, delay, latest+delay)
			}
		}
	}
}

// States, samples and counts by chance, many of them at an edge.
func TestByChance(t *testing.T) {
	r := rand.New(rand.NewSource(20))
	number := func() int {
		switch r.Intn(4) {
		case 0:
			return edges[r.Intn(len(edges))]
		case 1:
			return r.Intn(1<<40 + 1)
		case 2:
			return r.Intn(1 << 17)
		}
		return r.Intn(40) - 2
	}
	for range 300000 {
		s := State{Has: r.Intn(8) > 0, Latest: number(), Min: number(), Smooth: number(), Var: number()}
		if r.Intn(2) == 0 {
			s = Sample(Sample(State{}, number(), number()), number(), number())
		}
		hold(t, s, number(), number(), number())
	}
}

// P20.4: a state of samples alone may be, its Min is the least of them; and the wait doubles with the probes, or stays.
func TestSamples(t *testing.T) {
	r := rand.New(rand.NewSource(204))
	for range 2000 {
		s, least := State{}, math.MaxInt
		most := edges[4+r.Intn(13)] + 1
		for range 30 {
			latest, delay := r.Intn(most+3)-1, r.Intn(most+3)-1
			s = Sample(s, latest, delay)
			if plainTime(latest) && plainTime(delay) {
				least = min(least, latest)
			}
			if !Check(s) || s.Has != (least < math.MaxInt) || s.Has && s.Min != least {
				t.Fatalf("behind samples of which the least is %d: %+v", least, s)
			}
			holdWaits(t, s)
		}
	}
	for _, s := range wrong() {
		holdWaits(t, s)
	}
}

// holdWaits tells whether a probe is waited for as long or longer, the more there were, and never as long as is forbidden.
func holdWaits(t *testing.T, s State) {
	t.Helper()
	last := 0
	for count := -2; count < 20; count++ {
		wait := Probe(s, count)
		if wait < max(last, 1) || wait > 65536 {
			t.Fatalf("Probe(%+v, %d) = %d behind %d", s, count, wait, last)
		}
		last = wait
	}
	if late := Late(s); late < 1 || s.Has && Check(s) && late < s.Latest {
		t.Fatalf("Late(%+v) = %d", s, late)
	}
}

func FuzzRtt(f *testing.F) {
	for _, s := range append(right(), wrong()...) {
		f.Add(s.Has, s.Latest, s.Min, s.Smooth, s.Var, 18, 2, 1)
		f.Add(s.Has, s.Latest, s.Min, s.Smooth, s.Var, api.MaxTime, -1, math.MinInt)
	}
	f.Fuzz(func(t *testing.T, has bool, latest, least, smooth, vary, next, delay, count int) {
		hold(t, State{Has: has, Latest: latest, Min: least, Smooth: smooth, Var: vary}, next, delay, count)
	})
}
