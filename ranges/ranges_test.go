package ranges

import (
	"bytes"
	"fmt"
	"math"
	"math/rand"
	"slices"
	"testing"

	"sumpter/api"
	"sumpter/field"
	"sumpter/varint"
)

func span(from, to int) api.Span { return api.Span{From: from, To: to} }

// list is spans, of pairs of numbers.
func list(ends ...int) []api.Span {
	var l []api.Span
	for i := 0; i < len(ends); i += 2 {
		l = append(l, span(ends[i], ends[i+1]))
	}
	return l
}

// singles is n spans of one number, as near to each other as may be, from 0 on.
func singles(n int) []api.Span {
	var l []api.Span
	for i := range n {
		l = append(l, span(2*i, 2*i))
	}
	return l
}

// made is the set of spans.
func made(l []api.Span) *Set {
	s := New()
	for _, x := range l {
		s.Add(x.From, x.To)
	}
	return s
}

// plain is numbers from base on, each by itself.
type plain struct {
	base int
	in   [24]bool
}

// spansWhere is the numbers from from to to for which is holds, as spans.
func spansWhere(from, to int, is func(n int) bool) []api.Span {
	var l []api.Span
	for n := from; n <= to; n++ {
		switch {
		case !is(n):
		case len(l) > 0 && l[len(l)-1].To == n-1:
			l[len(l)-1].To = n
		default:
			l = append(l, span(n, n))
		}
	}
	return l
}

func (p *plain) has(n int) bool {
	return n >= p.base && n-p.base < len(p.in) && p.in[n-p.base]
}

// put lets the numbers from from to to be in, or not, and tells how many were otherwise.
func (p *plain) put(from, to int, in bool) int {
	changed := 0
	for n := from; n <= to; n++ {
		if p.in[n-p.base] != in {
			p.in[n-p.base] = in
			changed++
		}
	}
	return changed
}

func (p *plain) spans() []api.Span { return spansWhere(p.base, p.base+len(p.in)-1, p.has) }

func (p *plain) trim(most int) int {
	gone := 0
	for len(p.spans()) > max(most, 0) {
		low := p.spans()[0]
		p.put(low.From, low.To, false)
		gone++
	}
	return gone
}

// holdLooks holds what a set tells of itself against the plain one.
func holdLooks(t *testing.T, s *Set, p *plain) {
	t.Helper()
	want := p.spans()
	if got := s.Spans(); !slices.Equal(got, want) {
		t.Fatalf("Spans = %v, want %v", got, want)
	}
	if got := s.Len(); got != len(want) {
		t.Fatalf("Len of %v = %d", want, got)
	}
	count := 0
	for n := p.base - 2; n < p.base+len(p.in)+2; n++ {
		if s.Has(n) != p.has(n) {
			t.Fatalf("Has(%d) of %v = %v", n, want, s.Has(n))
		}
		if p.has(n) {
			count++
		}
	}
	if got := s.Count(); got != count {
		t.Fatalf("Count of %v = %d, want %d", want, got, count)
	}
	greatest := 0
	if len(want) > 0 {
		greatest = want[len(want)-1].To
	}
	if n, is := s.Max(); n != greatest || is != (len(want) > 0) {
		t.Fatalf("Max of %v = %d, %v", want, n, is)
	}
}

// TestExample: the chapter's example.
func TestExample(t *testing.T) {
	s := New()
	for _, x := range list(5, 7, 9, 9, 8, 8) {
		if !s.Add(x.From, x.To) {
			t.Errorf("Add(%v) is false", x)
		}
	}
	if got := s.Spans(); !slices.Equal(got, list(5, 9)) {
		t.Errorf("Spans = %v", got)
	}
	b, err := Put(list(2, 3, 7, 9))
	if want := []byte{0x09, 0x01, 0x02, 0x02, 0x01}; err != api.OK || !bytes.Equal(b, want) {
		t.Errorf("Put = % x, %v", b, err)
	}
}

// TestEverySmallSet: P17.1 and P17.2 of each set of seven numbers, at the lower and at the upper end of what may be, with each pair of numbers, those too that may not be.
func TestEverySmallSet(t *testing.T) {
	const width = 7
	for _, low := range []int{0, api.MaxTime - width + 1} {
		base := max(low-1, 0) // a number below, where there is one, is asked for, too
		for bits := range 1 << width {
			start := plain{base: base}
			for i := range width {
				start.in[low+i-base] = bits>>i&1 == 1
			}
			for from := low - 1; from <= low+width; from++ {
				for to := low - 1; to <= low+width; to++ {
					holdCalls(t, start, from, to)
				}
			}
		}
	}
}

// holdCalls holds Add, Remove and Gaps against the plain set.
func holdCalls(t *testing.T, start plain, from, to int) {
	t.Helper()
	may := from >= 0 && from <= to && to <= api.MaxTime
	spans := start.spans()

	grown, want := made(spans), start
	if added := may && want.put(from, to, true) > 0; grown.Add(from, to) != added {
		t.Fatalf("Add(%d, %d) to %v is not %v", from, to, spans, added)
	}
	holdLooks(t, grown, &want)

	less, want := made(spans), start
	gone := 0
	if may {
		gone = want.put(from, to, false)
	}
	if n := less.Remove(from, to); n != gone {
		t.Fatalf("Remove(%d, %d) from %v = %d, want %d", from, to, spans, n, gone)
	}
	holdLooks(t, less, &want)

	asked := made(spans)
	var gaps []api.Span
	if may {
		gaps = spansWhere(from, to, func(n int) bool { return !start.has(n) })
	}
	if got := asked.Gaps(from, to); !slices.Equal(got, gaps) {
		t.Fatalf("Gaps(%d, %d) of %v = %v, want %v", from, to, spans, got, gaps)
	}
	holdLooks(t, asked, &start)
}

// TestBounds: P17.1 and P17.2 at numbers that may not be, and at all that may.
func TestBounds(t *testing.T) {
	s := made(list(3, 5))
	for _, x := range []api.Span{
		span(-1, 4), span(-1, -1), span(5, 4), span(4, 3), span(0, api.MaxTime+1), span(api.MaxTime+1, api.MaxTime+1),
		span(math.MinInt, math.MaxInt), span(math.MaxInt, math.MinInt), span(0, math.MaxInt), span(math.MinInt, 4), span(math.MaxInt, math.MaxInt),
	} {
		if s.Add(x.From, x.To) || s.Remove(x.From, x.To) != 0 || len(s.Gaps(x.From, x.To)) != 0 || !slices.Equal(s.Spans(), list(3, 5)) {
			t.Errorf("%v is not refused: %v", x, s.Spans())
		}
	}
	for _, n := range []int{math.MinInt, -1, 2, 6, api.MaxTime + 1, math.MaxInt} {
		if s.Has(n) {
			t.Errorf("Has(%d)", n)
		}
	}
	if !s.Add(0, api.MaxTime) || s.Add(0, api.MaxTime) || s.Count() != api.MaxTime+1 || s.Len() != 1 || len(s.Gaps(0, api.MaxTime)) != 0 {
		t.Errorf("all numbers: %v, %d", s.Spans(), s.Count())
	}
	if n, is := s.Max(); n != api.MaxTime || !is || !s.Has(0) || !s.Has(api.MaxTime) || s.Has(-1) || s.Has(api.MaxTime+1) {
		t.Errorf("Max = %d, %v", n, is)
	}
	if n := s.Remove(1, api.MaxTime-1); n != api.MaxTime-1 || !slices.Equal(s.Spans(), list(0, 0, api.MaxTime, api.MaxTime)) {
		t.Errorf("Remove = %d: %v", n, s.Spans())
	}
	if n := s.Remove(0, api.MaxTime); n != 2 || s.Len() != 0 || s.Count() != 0 {
		t.Errorf("Remove = %d: %v", n, s.Spans())
	}
	if got := s.Gaps(0, api.MaxTime); !slices.Equal(got, list(0, api.MaxTime)) {
		t.Errorf("Gaps = %v", got)
	}
}

// TestZeroIsMax: P17.2, Max of a set that has but 0 is not that of an empty one.
func TestZeroIsMax(t *testing.T) {
	if n, is := made(list(0, 0)).Max(); n != 0 || !is {
		t.Errorf("Max = %d, %v", n, is)
	}
	if n, is := New().Max(); n != 0 || is {
		t.Errorf("Max of none = %d, %v", n, is)
	}
}

// TestTrim: P17.2, the lowest spans go, as many as are too many.
func TestTrim(t *testing.T) {
	all := list(1, 2, 5, 9, 20, 30)
	for _, c := range []struct{ most, gone int }{
		{math.MinInt, 3}, {-1, 3}, {0, 3}, {1, 2}, {2, 1}, {3, 0}, {4, 0}, {math.MaxInt, 0},
	} {
		s := made(all)
		if n := s.Trim(c.most); n != c.gone || !slices.Equal(s.Spans(), all[c.gone:]) {
			t.Errorf("Trim(%d) = %d: %v", c.most, n, s.Spans())
		}
		if n := s.Trim(c.most); n != 0 {
			t.Errorf("Trim(%d) again = %d", c.most, n)
		}
	}
}

// TestBreak: who goes over the spans may leave off anywhere.
func TestBreak(t *testing.T) {
	s := made(list(1, 2, 5, 9, 20, 30))
	for n := range 3 {
		var seen []api.Span
		for x := range s.within(2, 25) {
			seen = append(seen, x)
			if len(seen) > n {
				break
			}
		}
		if want := list(2, 2, 5, 9, 20, 25)[:n+1]; !slices.Equal(seen, want) {
			t.Errorf("%v, want %v", seen, want)
		}
	}
}

// TestNil: of nil false, 0 and nothing.
func TestNil(t *testing.T) {
	var s *Set
	if s.Add(1, 2) || s.Remove(1, 2) != 0 || s.Has(1) || s.Len() != 0 || s.Count() != 0 || s.Trim(0) != 0 || s.Trim(-1) != 0 {
		t.Error("nil answers something")
	}
	if s.Spans() != nil || s.Gaps(1, 2) != nil || s.Fork() != nil {
		t.Error("nil tells something")
	}
	if n, is := s.Max(); n != 0 || is {
		t.Errorf("Max = %d, %v", n, is)
	}
}

// TestFork: P17.2, two sets have nothing in common, whichever of them changes.
func TestFork(t *testing.T) {
	all := list(1, 2, 5, 9, 20, 30)
	changes := []func(s *Set){
		func(s *Set) { s.Add(3, 3) },
		func(s *Set) { s.Add(11, 11) },
		func(s *Set) { s.Add(1, 30) },
		func(s *Set) { s.Remove(6, 6) },
		func(s *Set) { s.Remove(1, 9) },
		func(s *Set) { s.Trim(1) },
	}
	for i, change := range changes {
		s := made(all)
		f := s.Fork()
		if f == nil || f == s || !slices.Equal(f.Spans(), all) {
			t.Fatalf("Fork is not as the set")
		}
		change(s)
		if !slices.Equal(f.Spans(), all) || slices.Equal(s.Spans(), all) {
			t.Errorf("change %d: the fork is %v, the set %v", i, f.Spans(), s.Spans())
		}
		s = made(all)
		change(s.Fork())
		if !slices.Equal(s.Spans(), all) {
			t.Errorf("change %d of the fork: the set is %v", i, s.Spans())
		}
	}
	if a, b := New(), New(); !a.Add(1, 1) || b.Len() != 0 {
		t.Error("two new sets have something in common")
	}
}

// TestNewMemory: answers can be changed, up to the end of their room, and the set stays as it was.
func TestNewMemory(t *testing.T) {
	all := list(1, 2, 5, 9, 20, 30)
	s := made(all)
	spoil := func(l []api.Span) {
		for i := range l[:cap(l)] {
			l[:cap(l)][i] = span(-7, -7)
		}
	}
	first := s.Spans()
	spoil(s.Spans())
	spoil(s.Gaps(0, 40))
	s.Add(50, 50)
	if !slices.Equal(first, all) || !slices.Equal(s.Spans(), append(all[:3:3], span(50, 50))) {
		t.Errorf("%v, %v", first, s.Spans())
	}
}

// TestRuns: P17.1 and P17.2, calls by chance, one behind the other, upon a set and its forks, held against the plain set.
func TestRuns(t *testing.T) {
	r := rand.New(rand.NewSource(17))
	type pair struct {
		s *Set
		p plain
	}
	for run := range 300 {
		base := []int{0, 1000, api.MaxTime - 23}[run%3]
		pairs := []pair{{New(), plain{base: base}}}
		for range 60 {
			at := r.Intn(len(pairs))
			x := &pairs[at]
			from := base + r.Intn(len(x.p.in))
			to := min(from+r.Intn(6), base+len(x.p.in)-1)
			switch r.Intn(7) {
			case 0, 1, 2:
				if got, want := x.s.Add(from, to), x.p.put(from, to, true) > 0; got != want {
					t.Fatalf("Add(%d, %d) = %v", from, to, got)
				}
			case 3, 4:
				if got, want := x.s.Remove(from, to), x.p.put(from, to, false); got != want {
					t.Fatalf("Remove(%d, %d) = %d, want %d", from, to, got, want)
				}
			case 5:
				most := r.Intn(9) - 1
				if got, want := x.s.Trim(most), x.p.trim(most); got != want {
					t.Fatalf("Trim(%d) = %d, want %d", most, got, want)
				}
			case 6:
				if len(pairs) < 3 {
					pairs = append(pairs, pair{x.s.Fork(), x.p})
				}
			}
			for i := range pairs {
				holdLooks(t, pairs[i].s, &pairs[i].p)
			}
		}
	}
}

// TestManySpans: a set has no bound of 64: that is only for what is put.
func TestManySpans(t *testing.T) {
	const n = 5000
	s := New()
	for _, i := range rand.New(rand.NewSource(3)).Perm(n) {
		if !s.Add(2*i, 2*i) {
			t.Fatalf("Add(%d) is false", 2*i)
		}
	}
	if s.Len() != n || s.Count() != n || !slices.Equal(s.Spans(), singles(n)) {
		t.Errorf("Len %d, Count %d", s.Len(), s.Count())
	}
	if got := s.Gaps(0, 2*n-2); len(got) != n-1 || got[0] != span(1, 1) {
		t.Errorf("%d gaps", len(got))
	}
	if !s.Add(0, 2*n) || s.Len() != 1 || s.Count() != 2*n+1 {
		t.Errorf("Len %d, Count %d", s.Len(), s.Count())
	}
}

// orders calls do with each order of the spans.
func orders(l []api.Span, at int, do func([]api.Span)) {
	if at == len(l) {
		do(l)
		return
	}
	for i := at; i < len(l); i++ {
		l[at], l[i] = l[i], l[at]
		orders(l, at+1, do)
		l[at], l[i] = l[i], l[at]
	}
}

// TestOrder: P17.4, a set does not hang on the order in which numbers came.
func TestOrder(t *testing.T) {
	for _, l := range [][]api.Span{
		list(5, 7, 9, 9, 8, 8, 4, 4, 20, 30, 1, 2),
		list(0, 0, 1, 1, 2, 2, 3, 3, 4, 4, 5, 5),
		list(0, 3, 2, 6, 5, 5, 8, 8, 10, 12, 9, 20),
		list(api.MaxTime, api.MaxTime, 0, 0, 1, 2, api.MaxTime-2, api.MaxTime-1, 7, 7, 4, 9),
	} {
		want := made(l).Spans()
		orders(slices.Clone(l), 0, func(o []api.Span) {
			if got := made(o).Spans(); !slices.Equal(got, want) {
				t.Fatalf("%v: %v, want %v", o, got, want)
			}
		})
		s := made(l) // what came and went leaves no trace
		s.Add(100, 200)
		s.Remove(100, 150)
		s.Remove(151, 200)
		if got := s.Spans(); !slices.Equal(got, want) {
			t.Errorf("%v, want %v", got, want)
		}
	}
}

// plainCheck is P17.3's Check, word by word.
func plainCheck(l []api.Span) api.Errno {
	if len(l) > 64 {
		return api.ErrLong
	}
	if len(l) == 0 {
		return api.ErrForm
	}
	for i, x := range l {
		if x.From < 0 || x.To < x.From || x.To > 1<<40 {
			return api.ErrForm
		}
		if i > 0 && (x.From <= l[i-1].To || x.From-l[i-1].To-1 < 1) {
			return api.ErrForm
		}
	}
	return api.OK
}

// TestCheck: P17.3, error by error.
func TestCheck(t *testing.T) {
	const top = api.MaxTime
	for _, c := range []struct {
		l    []api.Span
		want api.Errno
	}{
		{nil, api.ErrForm},
		{[]api.Span{}, api.ErrForm},
		{list(0, 0), api.OK},
		{list(0, top), api.OK},
		{list(top, top), api.OK},
		{list(0, 0, 2, 2), api.OK},
		{list(2, 3, 7, 9), api.OK},
		{singles(64), api.OK},
		{singles(65), api.ErrLong},
		{slices.Repeat(list(4, 3), 65), api.ErrLong},
		{slices.Repeat(list(4, 3), 64), api.ErrForm},
		{list(-1, 0), api.ErrForm},
		{list(4, 3), api.ErrForm},
		{list(0, top+1), api.ErrForm},
		{list(top+1, top+1), api.ErrForm},
		{list(1, 2, 3, 4), api.ErrForm},
		{list(1, 3, 3, 4), api.ErrForm},
		{list(1, 3, 2, 2), api.ErrForm},
		{list(1, 1, 1, 1), api.ErrForm},
		{list(7, 9, 2, 3), api.ErrForm},
		{list(2, 3, 7, 9, 8, 20), api.ErrForm},
		{list(2, 3, 9, 7), api.ErrForm},
		{list(2, 3, 5, 4, 7, 9), api.ErrForm},
		{list(math.MinInt, math.MaxInt), api.ErrForm},
		{list(0, math.MaxInt, math.MinInt, 0), api.ErrForm},
		{list(0, 0, math.MaxInt, math.MaxInt), api.ErrForm},
	} {
		before := slices.Clone(c.l)
		if got := Check(c.l); got != c.want || plainCheck(c.l) != c.want {
			t.Errorf("Check(%v) = %v, want %v", c.l, got, c.want)
		}
		b, err := Put(c.l)
		if err != c.want || (len(b) > 0) != (c.want == api.OK) {
			t.Errorf("Put(%v) = % x, %v", c.l, b, err)
		}
		if !slices.Equal(c.l, before) {
			t.Errorf("%v has become %v", before, c.l)
		}
	}
}

// TestCheckOfAll: P17.3, Check of all lists of at most three spans of few numbers.
func TestCheckOfAll(t *testing.T) {
	var few []api.Span
	for from := -1; from <= 5; from++ {
		for to := -1; to <= 5; to++ {
			few = append(few, span(from, to))
		}
	}
	lists := [][]api.Span{nil}
	for first := 0; first < len(lists); first++ {
		l := lists[first]
		if got, want := Check(l), plainCheck(l); got != want {
			t.Fatalf("Check(%v) = %v, want %v", l, got, want)
		}
		if len(l) < 3 {
			for _, x := range few {
				lists = append(lists, append(slices.Clone(l), x))
			}
		}
	}
}

// plainPut is P17.3's Put of spans that may be, word by word.
func plainPut(l []api.Span) []byte {
	last := l[len(l)-1]
	b := field.Join(field.Num(last.To), field.Num(len(l)-1), field.Num(last.To-last.From))
	for i := len(l) - 2; i >= 0; i-- {
		between := l[i+1].From - 1 - l[i].To
		b = field.Join(b, field.Num(between-1), field.Num(l[i].To-l[i].From))
	}
	return b
}

// wide is the spans that have the most bytes: 64, with all numbers but that of how many in eight bytes.
func wide() []api.Span {
	const far = 1 << 31
	var l []api.Span
	for i := range 64 {
		l = append(l, span(2*far*i, 2*far*i+far))
	}
	return l
}

// someSpans makes spans by chance that may be.
func someSpans(r *rand.Rand) []api.Span {
	var l []api.Span
	from := 0
	for range 1 + r.Intn(64) {
		from += r.Intn(1 << r.Intn(33))
		to := from + r.Intn(1<<r.Intn(33))
		l = append(l, span(from, to))
		from = to + 2
	}
	return l
}

// putLists is lists that may be put.
func putLists() [][]api.Span {
	const top = api.MaxTime
	lists := [][]api.Span{
		list(0, 0), list(0, top), list(top, top), list(63, 63), list(64, 64), list(0, 63), list(0, 64),
		list(0, 0, 2, 2), list(0, 0, 65, 65), list(0, 0, 66, 66), list(0, 0, top, top), list(0, top-2, top, top), list(0, 0, 2, top),
		list(2, 3, 7, 9), list(0, 16383, 32768, 49151), list(0, 16384, 32770, 49154),
		singles(2), singles(63), singles(64), wide(),
	}
	r := rand.New(rand.NewSource(5))
	for range 400 {
		lists = append(lists, someSpans(r))
	}
	return lists
}

// TestPutGet: P17.3 and P17.4, what is put is got as it was, whatever stands behind; cut off anywhere it is ErrCut.
func TestPutGet(t *testing.T) {
	for _, l := range putLists() {
		b, err := Put(l)
		if err != api.OK || !bytes.Equal(b, plainPut(l)) {
			t.Fatalf("Put(%v) = % x, %v", l, b, err)
		}
		for _, tail := range [][]byte{nil, {0}, {0xff}, {0x40}, bytes.Repeat([]byte{0xc0}, 2000)} {
			text := field.Join(b, tail)
			before := bytes.Clone(text)
			got, used, err := Get(text)
			if err != api.OK || used != len(b) || !slices.Equal(got, l) {
				t.Fatalf("Get(% x) = %v, %d, %v, want %v", text, got, used, err, l)
			}
			if Check(got) != api.OK || !bytes.Equal(text, before) {
				t.Fatalf("Get(% x) = %v", before, got)
			}
		}
		for n := range b {
			if got, used, err := Get(b[:n:n]); got != nil || used != 0 || err != api.ErrCut {
				t.Fatalf("Get(% x) = %v, %d, %v", b[:n], got, used, err)
			}
		}
	}
	if b, _ := Put(wide()); len(b) != 8+1+127*8 {
		t.Errorf("the most bytes are %d", len(b))
	}
}

// nums lays numbers.
func nums(l ...int) []byte {
	var b []byte
	for _, n := range l {
		b = append(b, field.Num(n)...)
	}
	return b
}

// in lays a number in a width that is not its least one.
func in(n, width int) []byte {
	b, _ := varint.PutIn(n, width)
	return b
}

// TestGetErrors: P17.3, which error it is: that of the first number that is cut off, or cannot be there.
func TestGetErrors(t *testing.T) {
	const top = api.MaxTime
	all := singles(64)
	full, _ := Put(all)
	for _, c := range []struct {
		b    []byte
		want api.Errno
	}{
		{nil, api.ErrCut},
		{[]byte{0x40}, api.ErrCut},
		{[]byte{0x80, 0x01, 0x00}, api.ErrCut},
		{[]byte{0xc0, 0, 0, 1, 0, 0, 0}, api.ErrCut},
		{nums(top), api.ErrCut},
		{nums(top, 0), api.ErrCut},
		{nums(top, 63), api.ErrCut},
		{nums(9, 1, 2), api.ErrCut},
		{nums(9, 1, 2, 2), api.ErrCut},
		{field.Join(nums(9, 1, 2), []byte{0x40}), api.ErrCut},
		{full[:len(full)-1], api.ErrCut},

		// numbers that are above all that may be
		{nums(top + 1), api.ErrForm},
		{nums(top+1, 0, 0), api.ErrForm},
		{nums(api.MaxVar, 0, 0), api.ErrForm},
		{nums(top, 64), api.ErrForm},
		{nums(top, 64, 0), api.ErrForm},
		{nums(top, api.MaxVar), api.ErrForm},
		{nums(9, 0, 10), api.ErrForm},
		{nums(top, 0, top+1), api.ErrForm},
		{nums(9, 0, api.MaxVar), api.ErrForm},
		{nums(9, 1, 2, 6), api.ErrForm},
		{nums(9, 1, 2, 6, 0), api.ErrForm},
		{nums(9, 1, 2, api.MaxVar, 0), api.ErrForm},
		{nums(9, 1, 2, 2, 4), api.ErrForm},
		{nums(9, 1, 2, 2, api.MaxVar), api.ErrForm},

		// numbers that leave no room for spans that are still to come
		{nums(0, 1), api.ErrForm},
		{nums(1, 1), api.ErrForm},
		{nums(9, 5), api.ErrForm},
		{nums(125, 63), api.ErrForm},
		{nums(9, 1, 8), api.ErrForm},
		{nums(9, 2, 6), api.ErrForm},
		{nums(9, 2, 2, 4), api.ErrForm},
		{nums(9, 2, 2, 2, 2), api.ErrForm},

		// numbers that do not stand in their least width
		{field.Join(in(9, 2), nums(0, 0)), api.ErrForm},
		{field.Join(nums(9), in(0, 2), nums(0)), api.ErrForm},
		{field.Join(nums(9, 0), in(0, 4)), api.ErrForm},
		{field.Join(nums(9, 1, 2), in(2, 8), nums(1)), api.ErrForm},
		{field.Join(nums(9, 1, 2, 2), in(1, 2)), api.ErrForm},

		// the first one from the left
		{field.Join(nums(9, 0, 10), []byte{0x40}), api.ErrForm},
		{field.Join(in(9, 2), []byte{0x40}), api.ErrForm},
		{field.Join(nums(9, 1), []byte{0x40}), api.ErrCut},

		// a number that is cut off is not known, whatever its first byte says
		{[]byte{0xff}, api.ErrCut},
		{field.Join(nums(9), []byte{0x7f}), api.ErrCut},
	} {
		l, used, err := Get(c.b)
		if l != nil || used != 0 || err != c.want {
			t.Errorf("Get(% x) = %v, %d, %v, want %v", c.b, l, used, err, c.want)
		}
	}
}

// TestGetLeast: the numbers that are just not too great for those ahead of them.
func TestGetLeast(t *testing.T) {
	for _, c := range []struct {
		b    []byte
		want []api.Span
	}{
		{nums(0, 0, 0), list(0, 0)},
		{nums(9, 0, 9), list(0, 9)},
		{nums(2, 1, 0, 0, 0), list(0, 0, 2, 2)},
		{nums(9, 1, 7, 0, 0), list(0, 0, 2, 9)},
		{nums(9, 1, 2, 5, 0), list(0, 0, 7, 9)},
		{nums(9, 1, 2, 2, 3), list(0, 3, 7, 9)},
		{nums(9, 2, 5, 0, 0, 0, 0), list(0, 0, 2, 2, 4, 9)},
		{nums(9, 2, 2, 3, 0, 0, 0), list(0, 0, 2, 2, 7, 9)},
		{nums(9, 2, 2, 2, 1, 0, 0), list(0, 0, 2, 3, 7, 9)},
		{append(nums(126, 63), make([]byte, 127)...), singles(64)},
	} {
		if l, used, err := Get(c.b); err != api.OK || used != len(c.b) || !slices.Equal(l, c.want) {
			t.Errorf("Get(% x) = %v, %d, %v, want %v", c.b, l, used, err, c.want)
		}
	}
}

// TestGetOfAll: P17.3, all texts of at most six bytes from 0 to 6, held against all that Put lays of sets of such numbers.
func TestGetOfAll(t *testing.T) {
	const width = 7
	whole, begun := map[string][]api.Span{}, map[string]bool{}
	for bits := 1; bits < 1<<width; bits++ {
		l := spansWhere(0, width-1, func(n int) bool { return bits>>n&1 == 1 })
		b := string(plainPut(l))
		whole[b] = l
		for n := range len(b) {
			begun[b[:n]] = true
		}
	}
	texts := []string{""}
	for first := 0; first < len(texts); first++ {
		text := texts[first]
		wantSpans, wantUsed, want := []api.Span(nil), 0, api.ErrForm
		if begun[text] {
			want = api.ErrCut
		}
		for n := range len(text) + 1 {
			if l, is := whole[text[:n]]; is {
				wantSpans, wantUsed, want = l, n, api.OK
			}
		}
		if l, used, err := Get([]byte(text)); !slices.Equal(l, wantSpans) || used != wantUsed || err != want {
			t.Fatalf("Get(% x) = %v, %d, %v, want %v, %d, %v", text, l, used, err, wantSpans, wantUsed, want)
		}
		if len(text) < 6 {
			for c := range width {
				texts = append(texts, text+string(rune(c)))
			}
		}
	}
}

// TestGetByChance: whatever bytes are read, what is got is laid just so again, and an error comes alone.
func TestGetByChance(t *testing.T) {
	r := rand.New(rand.NewSource(9))
	seen := map[api.Errno]int{}
	for range 20000 {
		b, _ := Put(someSpans(r))
		for range r.Intn(4) {
			b[r.Intn(len(b))] = byte(r.Intn(256))
		}
		b = b[:r.Intn(len(b)+1)]
		l, used, err := Get(b)
		seen[err]++
		again, putErr := Put(l)
		switch err {
		case api.OK:
			if putErr != api.OK || !bytes.Equal(again, b[:used]) {
				t.Fatalf("Get(% x) = %v, %d", b, l, used)
			}
		case api.ErrCut, api.ErrForm:
			if l != nil || used != 0 {
				t.Fatalf("Get(% x) = %v, %d, %v", b, l, used, err)
			}
		}
	}
	if len(seen) != 3 || seen[api.OK] == 0 || seen[api.ErrCut] == 0 || seen[api.ErrForm] == 0 {
		t.Error(fmt.Sprint("errors: ", seen))
	}
}

// TestManyBehind: what stands behind is not looked at, nor gone over, however long it is.
func TestManyBehind(t *testing.T) {
	b, _ := Put(wide())
	b = append(b, make([]byte, 1<<24)...)
	for range 20000 {
		if _, used, err := Get(b); used != 8+1+127*8 || err != api.OK {
			t.Fatal(used, err)
		}
	}
}
