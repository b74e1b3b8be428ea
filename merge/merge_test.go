package merge

import (
	"bytes"
	"fmt"
	"math/rand"
	"reflect"
	"slices"
	"strings"
	"testing"

	"sumpter/api"
	"sumpter/path"
	"sumpter/tree"
)

// file makes a file.
func file(p, data string) api.Entry {
	return api.Entry{Path: p, Data: []byte(data)}
}

// dir makes a directory.
func dir(p string) api.Entry {
	return api.Entry{Path: p, Dir: true}
}

// list makes a list.
func list(l ...api.Entry) []api.Entry {
	return l
}

// flat makes n files beside one another.
func flat(n int) []api.Entry {
	var l []api.Entry
	for i := range n {
		l = append(l, file(fmt.Sprintf("f%03d", i), fmt.Sprint(i)))
	}
	return l
}

// policies are all that there are.
func policies() []api.Policy {
	return []api.Policy{{}, {Delete: true}, {Backup: true}, {Delete: true, Backup: true}}
}

// tell lays a list out as a text, with nil and empty Data alike.
func tell(l []api.Entry) string {
	var b strings.Builder
	for _, x := range l {
		if len(x.Data) > 40 {
			fmt.Fprintf(&b, "%q %v %d; ", x.Path, x.Dir, len(x.Data))
		} else {
			fmt.Fprintf(&b, "%q %v %q; ", x.Path, x.Dir, x.Data)
		}
	}
	return b.String()
}

// deep copies a list with its Data, keeping nil and empty ones apart, to hold the list against it later.
func deep(l []api.Entry) []api.Entry {
	c := slices.Clone(l)
	for i := range c {
		c[i].Data = bytes.Clone(c[i].Data)
	}
	return c
}

// spoil overwrites all of a list, with its spare room, and all Data, with theirs.
func spoil(l []api.Entry) {
	l = l[:cap(l)]
	for i := range l {
		b := l[i].Data[:cap(l[i].Data)]
		for j := range b {
			b[j] ^= 0xa5
		}
		l[i] = file("spoilt", "spoilt")
	}
}

// roomy copies a list so that it, and all Data, have spare room in which an append could write.
func roomy(l []api.Entry) []api.Entry {
	c := append(make([]api.Entry, 0, len(l)+9), l...)
	for i := range c {
		c[i].Data = append(make([]byte, 0, len(c[i].Data)+9), c[i].Data...)
	}
	return c
}

// world is two trees and a policy, with what each path has, for the words' plain forms.
type world struct {
	s, d   []api.Entry
	p      api.Policy
	sf, df map[string]string // the files' bytes by their paths
	sd, dd map[string]bool   // the directories
}

// look makes a world.
func look(s, d []api.Entry, p api.Policy) world {
	w := world{s, d, p, map[string]string{}, map[string]string{}, map[string]bool{}, map[string]bool{}}
	for _, x := range s {
		if x.Dir {
			w.sd[x.Path] = true
		} else {
			w.sf[x.Path] = string(x.Data)
		}
	}
	for _, x := range d {
		if x.Dir {
			w.dd[x.Path] = true
		} else {
			w.df[x.Path] = string(x.Data)
		}
	}
	return w
}

// inS tells whether s has something of a path.
func (w world) inS(p string) bool {
	_, f := w.sf[p]
	return f || w.sd[p]
}

// blocked is the chapter's word: each file of s is held against the path.
func (w world) blocked(p string) bool {
	for f := range w.sf {
		if strings.HasPrefix(p, f+"/") {
			return true
		}
	}
	return false
}

// fileStays is the chapter's word, of a file of d.
func (w world) fileStays(p string) bool {
	b, is := w.sf[p]
	return is && b == w.df[p] || !w.inS(p) && !w.blocked(p) && !w.p.Delete
}

// dirStays is the chapter's word, of a directory of d.
func (w world) dirStays(p string) bool {
	return w.sd[p] || !w.inS(p) && !w.blocked(p) && !w.p.Delete
}

// kept is the chapter's word, of a file of d: where it is kept, and whether it is.
func (w world) kept(p string) (string, bool) {
	k := p + "~"
	parent := k[:max(strings.LastIndex(k, "/"), 0)]
	is := !w.fileStays(p) && w.p.Backup
	is = is && !strings.HasSuffix(p, "~") && path.Check(k) == api.OK
	is = is && !w.inS(k) && !w.dd[k]
	is = is && (parent == "" || w.sd[parent] || w.dd[parent] && w.dirStays(parent))
	return k, is
}

// sorted tells entries in the order of path.Less.
func sorted(all map[string]api.Entry) []api.Entry {
	var l []api.Entry
	for _, x := range all {
		l = append(l, x)
	}
	slices.SortFunc(l, func(a, b api.Entry) int {
		if path.Less(a.Path, b.Path) {
			return -1
		}
		return 1 // no two are the same
	})
	return l
}

// plainWant is P9.1.
func plainWant(s, d []api.Entry, p api.Policy) ([]api.Entry, api.Errno) {
	if err := tree.Check(s); err != api.OK {
		return nil, err
	}
	if err := tree.Check(d); err != api.OK {
		return nil, err
	}
	w := look(s, d, p)
	all := map[string]api.Entry{}
	for p := range w.dd {
		if w.dirStays(p) {
			all[p] = dir(p)
		}
	}
	for p, b := range w.df {
		if w.fileStays(p) {
			all[p] = file(p, b)
		}
	}
	for p, b := range w.df {
		if k, is := w.kept(p); is {
			all[k] = file(k, b)
		}
	}
	for _, x := range s {
		all[x.Path] = x
	}
	if len(all) > 64 {
		return nil, api.ErrFull
	}
	return sorted(all), api.OK
}

// plainPlan is P9.2.
func plainPlan(s, d []api.Entry, p api.Policy) ([]Step, api.Errno) {
	want, err := plainWant(s, d, p)
	if err != api.OK {
		return nil, err
	}
	w, m := look(s, d, p), look(want, nil, p)
	var plan []Step
	for _, x := range d {
		if x.Dir {
			continue
		}
		k, is := w.kept(x.Path)
		if b, there := w.df[k]; is && (!there || b != string(x.Data)) {
			plan = append(plan, Step{0, x.Path, k})
		}
	}
	for i := len(d) - 1; i >= 0; i-- {
		_, f := m.sf[d[i].Path]
		if d[i].Dir && !m.sd[d[i].Path] || !d[i].Dir && !f {
			plan = append(plan, Step{1, d[i].Path, ""})
		}
	}
	for _, x := range want {
		if x.Dir && !w.dd[x.Path] {
			plan = append(plan, Step{2, x.Path, ""})
		}
	}
	for _, x := range s {
		if b, there := w.df[x.Path]; !x.Dir && (!there || b != string(x.Data)) {
			plan = append(plan, Step{3, x.Path, ""})
		}
	}
	return plan, api.OK
}

// checkMerge holds Want and Plan against the promises' words, and walks the plan.
func checkMerge(t *testing.T, s, d []api.Entry, p api.Policy) {
	t.Helper()
	want, err := Want(s, d, p)
	mean, meant := plainWant(s, d, p)
	if err != meant || !tree.Same(want, mean) || err != api.OK && want != nil {
		t.Fatalf("Want(%s, %s, %v) = %s, %v, want %s, %v", tell(s), tell(d), p, tell(want), err, tell(mean), meant)
	}
	plan, err := Plan(s, d, p)
	means, meant := plainPlan(s, d, p)
	if err != meant || !slices.Equal(plan, means) || err != api.OK && plan != nil {
		t.Fatalf("Plan(%s, %s, %v) = %v, %v, want %v, %v", tell(s), tell(d), p, plan, err, means, meant)
	}
	if err == api.OK {
		checkWalk(t, s, d, p, want, plan)
	}
}

// checkWalk holds P9.4: what d is behind each step, and at the end.
func checkWalk(t *testing.T, s, d []api.Entry, p api.Policy, want []api.Entry, plan []Step) {
	t.Helper()
	if err := tree.Check(want); err != api.OK {
		t.Fatalf("Want(%s, %s, %v) = %s is no tree: %v", tell(s), tell(d), p, tell(want), err)
	}
	now := d
	for i, x := range plan {
		next, err := Apply(now, x, s)
		if x.Kind == Keep && len(now) == 64 && err == api.ErrLong { // all that is kept comes ahead of what goes: see TestKeepsAheadOfRemoves
			return
		}
		if err != api.OK || tree.Check(next) != api.OK {
			t.Fatalf("Plan(%s, %s, %v) = %v, whose step %d makes %s of %s: %v", tell(s), tell(d), p, plan, i, tell(next), tell(now), err)
		}
		now = next
		for _, y := range slices.Concat(s, d, want, now) {
			z, is := tree.Get(now, y.Path)
			if !Path(d, want, y.Path, z, is) || !plainPath(d, want, y.Path, z, is) {
				t.Fatalf("Plan(%s, %s, %v) = %v, whose step %d has %q as %s, %v", tell(s), tell(d), p, plan, i, y.Path, tell(list(z)), is)
			}
		}
	}
	if !tree.Same(now, want) {
		t.Fatalf("Plan(%s, %s, %v) = %v, which makes %s, want %s", tell(s), tell(d), p, plan, tell(now), tell(want))
	}
}

// plainPath is P9.4's word of Path.
func plainPath(d, want []api.Entry, p string, now api.Entry, is bool) bool {
	first := slices.IndexFunc(d, func(x api.Entry) bool { return x.Path == p })
	last := slices.IndexFunc(want, func(x api.Entry) bool { return x.Path == p })
	if is && first >= 0 && tell(d[first:first+1]) == tell(list(now)) && bytes.Equal(d[first].Data, now.Data) {
		return true
	}
	if is && last >= 0 && tell(want[last:last+1]) == tell(list(now)) && bytes.Equal(want[last].Data, now.Data) {
		return true
	}
	return !is && (first < 0 || last < 0 || d[first].Dir != want[last].Dir)
}

// growths makes all trees of these paths, each of which is nothing, one of these files, or a directory.
func growths(paths []string, bytes ...string) [][]api.Entry {
	all := [][]api.Entry{nil}
	for _, p := range paths {
		var next [][]api.Entry
		for _, l := range all {
			next = append(next, l)
			some := list(dir(p))
			for _, b := range bytes {
				some = append(some, file(p, b))
			}
			for _, x := range some {
				if made, err := tree.Put(l, x); err == api.OK {
					next = append(next, made)
				}
			}
		}
		all = next
	}
	return all
}

// P9.1, P9.2, P9.4, upon all pairs of small trees.
func TestAllSmall(t *testing.T) {
	for _, c := range []struct {
		paths []string
		bytes []string
		trees int
	}{
		{[]string{"a", "a/b", "a/b~", "a~"}, []string{"", "1"}, 76},
		{[]string{"a", "a/b", "a/b/c", "a/b/c~"}, []string{"1", "2"}, 22},
		{[]string{"a", "a~", "a~/b", "a~~"}, []string{"1"}, 45},
	} {
		all := growths(c.paths, c.bytes...)
		if len(all) != c.trees {
			t.Error(c.paths, len(all))
		}
		for _, s := range all {
			for _, d := range all {
				for _, p := range policies() {
					checkMerge(t, s, d, p)
				}
			}
		}
	}
}

// grow makes a tree by chance.
func grow(draw *rand.Rand, paths []string, tries int) []api.Entry {
	var l []api.Entry
	for range tries {
		x := file(paths[draw.Intn(len(paths))], fmt.Sprint(draw.Intn(3)))
		if draw.Intn(3) == 0 {
			x = dir(x.Path)
		}
		if made, err := tree.Put(l, x); err == api.OK {
			l = made
		}
	}
	return l
}

// P9.1, P9.2, P9.4, upon trees by chance, small ones and such as have nearly as many entries as may be.
func TestByChance(t *testing.T) {
	draw := rand.New(rand.NewSource(9))
	var paths []string
	for _, a := range []string{"a", "a.b", "a~", "b", strings.Repeat("c", 31), strings.Repeat("d", 32)} {
		paths = append(paths, a)
		for _, b := range []string{"a", "a~", "b", strings.Repeat("e", 31)} {
			paths = append(paths, a+"/"+b, a+"/"+b+"/a", a+"/"+b+"/a~", a+"/"+b+"/"+strings.Repeat("f", 32)+"/"+strings.Repeat("g", 31))
		}
	}
	for _, x := range flat(80) {
		paths = append(paths, x.Path)
	}
	errs := map[api.Errno]int{}
	for i := range 200 {
		tries := []int{5, 20, 80, 150}[i%4]
		s, d := grow(draw, paths, tries), grow(draw, paths, tries)
		for _, p := range policies() {
			checkMerge(t, s, d, p)
			_, err := Want(s, d, p)
			errs[err]++
		}
	}
	if errs[api.OK] < 100 || errs[api.ErrFull] < 50 || len(errs) != 2 {
		t.Error(errs)
	}
}

// P9.1, P9.2: each error, ahead of those that are named later.
func TestErrors(t *testing.T) {
	noDir := list(file("x/y", ""))
	twice := list(file("a", ""), file("a", ""))
	mine := list(file(".sumpter", ""))
	big := list(file("a", strings.Repeat("x", 65537)))
	gs := deep(flat(33))
	for i := range gs {
		gs[i].Path = "g" + gs[i].Path
	}
	both := api.Policy{Delete: true, Backup: true}
	for _, c := range []struct {
		s, d []api.Entry
		p    api.Policy
		want api.Errno
	}{
		{noDir, nil, api.Policy{}, api.ErrNone},
		{nil, noDir, api.Policy{}, api.ErrNone},
		{noDir, twice, api.Policy{}, api.ErrNone},
		{twice, noDir, api.Policy{}, api.ErrThere},
		{mine, flat(65), api.Policy{}, api.ErrName},
		{flat(65), mine, api.Policy{}, api.ErrLong},
		{nil, mine, both, api.ErrName},
		{big, nil, both, api.ErrLong},
		{nil, big, both, api.ErrLong},
		{flat(64), noDir, api.Policy{}, api.ErrNone},
		{flat(64), flat(64), both, api.OK},
		{flat(64), nil, both, api.OK},
		{nil, flat(64), api.Policy{}, api.OK},
		{nil, flat(64), both, api.OK},
		{flat(31), gs, api.Policy{}, api.OK},
		{flat(31), gs, both, api.OK},
		{flat(32), gs, api.Policy{}, api.ErrFull},
		{flat(32), gs, api.Policy{Delete: true}, api.OK},
		{flat(32), gs, both, api.ErrFull},
		{gs, flat(32), api.Policy{Backup: true}, api.ErrFull},
		{gs, flat(32), api.Policy{Delete: true}, api.OK},
	} {
		want, err := Want(c.s, c.d, c.p)
		plan, err2 := Plan(c.s, c.d, c.p)
		if err != c.want || err2 != c.want {
			t.Errorf("Want, Plan(%s, %s, %v): %v, %v, want %v", tell(c.s), tell(c.d), c.p, err, err2, c.want)
		}
		if c.want != api.OK && (want != nil || plan != nil) {
			t.Errorf("Want, Plan(%s, %s, %v) have an answer beside an error", tell(c.s), tell(c.d), c.p)
		}
		checkMerge(t, c.s, c.d, c.p)
	}
}

// P9.1, P9.2: what stays and what is kept, one word of the chapter after the other.
func TestWords(t *testing.T) {
	both, backup := api.Policy{Delete: true, Backup: true}, api.Policy{Backup: true}
	long31, long32 := strings.Repeat("n", 31), strings.Repeat("n", 32)
	for _, c := range []struct {
		why     string
		s, d    []api.Entry
		p       api.Policy
		want    []api.Entry
		planned string
	}{
		{"nothing", nil, nil, both, nil, ""},
		{"the same stays", list(dir("a"), file("b", "1")), list(dir("a"), file("b", "1")), both, list(dir("a"), file("b", "1")), ""},
		{"what s has not stays", nil, list(dir("a"), file("a/b", "1")), backup, list(dir("a"), file("a/b", "1")), ""},
		{"what s has not goes", nil, list(dir("a"), file("a/b", "1")), both, nil, "1 a/b ;1 a ;"},
		{"blocked by a parent", list(file("a", "1")), list(dir("a"), file("a/b", "2")), backup, list(file("a", "1")), "1 a/b ;1 a ;3 a ;"},
		{"blocked by a parent's parent", list(file("a", "1")), list(dir("a"), dir("a/b"), file("a/b/c", "2")), api.Policy{}, list(file("a", "1")), "1 a/b/c ;1 a/b ;1 a ;3 a ;"},
		{"a text ahead is no parent", list(file("a", "1")), list(dir("a.b"), file("a.b/c", "2")), api.Policy{}, list(file("a", "1"), dir("a.b"), file("a.b/c", "2")), "3 a ;"},
		{"a file is kept from a directory", list(dir("a")), list(file("a", "1")), backup, list(dir("a"), file("a~", "1")), "0 a a~;1 a ;2 a ;"},
		{"no backup", list(file("a", "2")), list(file("a", "1")), api.Policy{Delete: true}, list(file("a", "2")), "3 a ;"},
		{"behind a name of 31 bytes", nil, list(file(long31, "1")), both, list(file(long31+"~", "1")), "0 " + long31 + " " + long31 + "~;1 " + long31 + " ;"},
		{"behind a name of 32 bytes", nil, list(file(long32, "1")), both, nil, "1 " + long32 + " ;"},
		{"of what is kept nothing is kept", nil, list(file("a~", "1")), both, nil, "1 a~ ;"},
		{"s has a file there", list(file("a", "2"), file("a~", "3")), list(file("a", "1")), both, list(file("a", "2"), file("a~", "3")), "3 a ;3 a~ ;"},
		{"s has a directory there", list(file("a", "2"), dir("a~")), list(file("a", "1")), both, list(file("a", "2"), dir("a~")), "2 a~ ;3 a ;"},
		{"d has a directory there", list(file("a", "2")), list(file("a", "1"), dir("a~")), both, list(file("a", "2")), "1 a~ ;3 a ;"},
		{"d has a directory there that stays", list(file("a", "2")), list(file("a", "1"), dir("a~")), backup, list(file("a", "2"), dir("a~")), "3 a ;"},
		{"in the place of a file that stays", list(file("a", "2")), list(file("a", "1"), file("a~", "0")), backup, list(file("a", "2"), file("a~", "1")), "0 a a~;3 a ;"},
		{"in the place of a file that goes", list(file("a", "2")), list(file("a", "1"), file("a~", "0")), both, list(file("a", "2"), file("a~", "1")), "0 a a~;3 a ;"},
		{"where the bytes are already", list(file("a", "2")), list(file("a", "1"), file("a~", "1")), both, list(file("a", "2"), file("a~", "1")), "3 a ;"},
		{"an empty file is kept, too", list(file("a", "2")), list(file("a", "")), both, list(file("a", "2"), file("a~", "")), "0 a a~;3 a ;"},
		{"in a directory of s", list(dir("a")), list(dir("a"), file("a/b", "1")), both, list(dir("a"), file("a/b~", "1")), "0 a/b a/b~;1 a/b ;"},
		{"in a directory that stays", list(dir("a"), file("a/b", "2")), list(dir("a"), file("a/b", "1")), backup, list(dir("a"), file("a/b", "2"), file("a/b~", "1")), "0 a/b a/b~;3 a/b ;"},
		{"in a directory that goes", nil, list(dir("a"), file("a/b", "1")), both, nil, "1 a/b ;1 a ;"},
		{"in a directory that is to be a file", list(file("a", "2")), list(dir("a"), file("a/b", "1")), both, list(file("a", "2")), "1 a/b ;1 a ;3 a ;"},
		{"rising and falling", list(dir("a"), dir("a/b"), file("a/b/c", "1"), file("a.b", "2")), list(dir("b"), file("b/a", "3"), dir("b.b"), file("b~", "5")), both, list(dir("a"), dir("a/b"), file("a/b/c", "1"), file("a.b", "2")), "1 b~ ;1 b.b ;1 b/a ;1 b ;2 a ;2 a/b ;3 a/b/c ;3 a.b ;"},
	} {
		want, err := Want(c.s, c.d, c.p)
		if err != api.OK || tell(want) != tell(c.want) {
			t.Errorf("%s: Want = %s, %v, want %s", c.why, tell(want), err, tell(c.want))
		}
		plan, err := Plan(c.s, c.d, c.p)
		told := ""
		for _, x := range plan {
			told += fmt.Sprintf("%d %s %s;", x.Kind, x.Path, x.To)
		}
		if err != api.OK || told != c.planned {
			t.Errorf("%s: Plan = %s, %v, want %s", c.why, told, err, c.planned)
		}
		checkMerge(t, c.s, c.d, c.p)
	}
}

// P9.2, P9.3: Plan has all that is kept ahead of all that goes; so between there may be more than a tree may have, though Want has not: tree.Put's error is told.
func TestKeepsAheadOfRemoves(t *testing.T) {
	d, p := flat(40), api.Policy{Delete: true, Backup: true}
	want, err := Want(nil, d, p)
	if err != api.OK || len(want) != 40 || want[39].Path != "f039~" {
		t.Fatal(tell(want), err)
	}
	plan, err := Plan(nil, d, p)
	if err != api.OK || len(plan) != 80 || plan[39].Kind != Keep || plan[40].Kind != Remove {
		t.Fatal(plan, err)
	}
	now := d
	for i, x := range plan[:25] {
		next, err := Apply(now, x, nil)
		if i < 24 && (err != api.OK || len(next) != 41+i) || i == 24 && (err != api.ErrLong || next != nil) {
			t.Fatal(i, tell(next), err)
		}
		now = next
	}
	checkMerge(t, nil, flat(32), p) // 64 are there behind the last Keep
}

// P9.3: each kind, and each error.
func TestApply(t *testing.T) {
	l := list(dir("a"), file("a/b", "1"), dir("c"), file("d", "2"), file("e", ""))
	s := list(dir("a"), file("a/b", "3"), file("c", "4"), file("f", ""), dir("g"), file("g/h", "5"))
	noTree := list(file("d", "2"), file("a", ""))
	big := list(file("d", strings.Repeat("x", 65537)))
	for _, c := range []struct {
		l    []api.Entry
		x    Step
		s    []api.Entry
		want []api.Entry
		err  api.Errno
	}{
		{l, Step{Keep, "d", "d~"}, nil, list(l[0], l[1], l[2], l[3], file("d~", "2"), l[4]), api.OK},
		{l, Step{Keep, "d", "a/x"}, s, list(l[0], l[1], file("a/x", "2"), l[2], l[3], l[4]), api.OK},
		{l, Step{Keep, "a/b", "d"}, nil, list(l[0], l[1], l[2], file("d", "1"), l[4]), api.OK},
		{l, Step{Keep, "e", "d"}, nil, list(l[0], l[1], l[2], file("d", ""), l[4]), api.OK},
		{l, Step{Keep, "d", "d"}, nil, l, api.OK},
		{l, Step{Keep, "f", "f~"}, s, nil, api.ErrNone},
		{l, Step{Keep, "c", "c~"}, s, nil, api.ErrNone},
		{l, Step{Keep, "", "c~"}, s, nil, api.ErrNone},
		{l, Step{Keep, "x", "/"}, s, nil, api.ErrNone},
		{l, Step{Keep, "d", "/"}, s, nil, api.ErrName},
		{l, Step{Keep, "d", ""}, s, nil, api.ErrName},
		{l, Step{Keep, "d", ".sumpter"}, s, nil, api.ErrName},
		{l, Step{Keep, "d", "c"}, s, nil, api.ErrKind},
		{l, Step{Keep, "d", "d/e"}, s, nil, api.ErrKind},
		{l, Step{Keep, "d", "x/y"}, s, nil, api.ErrNone},
		{flat(64), Step{Keep, "f000", "g"}, nil, nil, api.ErrLong},
		{noTree, Step{Keep, "d", "d~"}, nil, nil, api.ErrThere},
		{l, Step{Remove, "d", "e"}, nil, list(l[0], l[1], l[2], l[4]), api.OK},
		{l, Step{Remove, "c", ""}, nil, list(l[0], l[1], l[3], l[4]), api.OK},
		{l, Step{Remove, "a", ""}, s, nil, api.ErrFull},
		{l, Step{Remove, "f", ""}, s, nil, api.ErrNone},
		{noTree, Step{Remove, "d", ""}, s, nil, api.ErrThere},
		{l, Step{Mkdir, "b", "x"}, nil, list(l[0], l[1], dir("b"), l[2], l[3], l[4]), api.OK},
		{l, Step{Mkdir, "c/d", ""}, nil, list(l[0], l[1], l[2], dir("c/d"), l[3], l[4]), api.OK},
		{l, Step{Mkdir, "c", ""}, nil, l, api.OK},
		{l, Step{Mkdir, "d", ""}, nil, nil, api.ErrKind},
		{l, Step{Mkdir, "x/y", ""}, nil, nil, api.ErrNone},
		{l, Step{Mkdir, "", "x"}, nil, nil, api.ErrName},
		{noTree, Step{Mkdir, "x", ""}, nil, nil, api.ErrThere},
		{l, Step{Install, "a/b", "x"}, s, list(l[0], file("a/b", "3"), l[2], l[3], l[4]), api.OK},
		{l, Step{Install, "f", ""}, s, list(l[0], l[1], l[2], l[3], l[4], file("f", "")), api.OK},
		{l, Step{Install, "d", ""}, s, nil, api.ErrNone},
		{l, Step{Install, "a", ""}, s, nil, api.ErrNone},
		{l, Step{Install, "b", ""}, nil, nil, api.ErrNone},
		{l, Step{Install, "", "f"}, s, nil, api.ErrNone},
		{l, Step{Install, "c", ""}, s, nil, api.ErrKind},
		{l, Step{Install, "g/h", ""}, s, nil, api.ErrNone},
		{l, Step{Install, "d", ""}, big, nil, api.ErrLong},
		{noTree, Step{Install, "f", ""}, s, nil, api.ErrThere},
		{noTree, Step{Install, "d", ""}, s, nil, api.ErrNone},
		{noTree, Step{Keep, "f", "d~"}, s, nil, api.ErrNone},
		{l, Step{4, "d", "d~"}, s, nil, api.ErrArg},
		{l, Step{255, "d", "d~"}, s, nil, api.ErrArg},
		{noTree, Step{4, "x", ""}, s, nil, api.ErrArg},
		{nil, Step{}, nil, nil, api.ErrNone},
	} {
		got, err := Apply(c.l, c.x, c.s)
		if err != c.err || tell(got) != tell(c.want) || err != api.OK && got != nil {
			t.Errorf("Apply(%s, %v, %s) = %s, %v, want %s, %v", tell(c.l), c.x, tell(c.s), tell(got), err, tell(c.want), c.err)
		}
	}
}

// P9.3: Apply goes by tree's calls, upon all small trees.
func TestApplySmall(t *testing.T) {
	all := growths([]string{"a", "a/b", "a~"}, "1", "")
	for _, l := range all {
		for _, s := range all {
			for _, p := range []string{"a", "a/b", "a~", "c", "", "a/b/c"} {
				for kind := range Kind(6) {
					for _, to := range []string{"a", "a~", "a/b~", ""} {
						x := Step{kind, p, to}
						got, err := Apply(l, x, s)
						want, meant := plainApply(l, x, s)
						if err != meant || !tree.Same(got, want) {
							t.Fatalf("Apply(%s, %v, %s) = %s, %v, want %s, %v", tell(l), x, tell(s), tell(got), err, tell(want), meant)
						}
					}
				}
			}
		}
	}
}

// plainApply is P9.3.
func plainApply(l []api.Entry, x Step, s []api.Entry) ([]api.Entry, api.Errno) {
	a, b := look(l, nil, api.Policy{}), look(s, nil, api.Policy{})
	old, has := a.sf[x.Path]
	fresh, is := b.sf[x.Path]
	switch {
	case x.Kind == 0 && has:
		return tree.Put(l, file(x.To, old))
	case x.Kind == 3 && is:
		return tree.Put(l, file(x.Path, fresh))
	case x.Kind == 0 || x.Kind == 3:
		return nil, api.ErrNone
	case x.Kind == 1:
		return tree.Remove(l, x.Path)
	case x.Kind == 2:
		return tree.Put(l, dir(x.Path))
	}
	return nil, api.ErrArg
}

// P9.4: what a path may have on the way.
func TestPath(t *testing.T) {
	d := list(dir("a"), file("b", "1"), file("c", "2"), dir("d"), file("e", "3"))
	want := list(dir("a"), file("b", "4"), dir("c"), file("d", "5"), file("f", ""))
	for _, c := range []struct {
		p   string
		now api.Entry
		is  bool
		may bool
	}{
		{"a", dir("a"), true, true},
		{"a", api.Entry{}, false, false},
		{"a", dir("a"), false, false},
		{"a", file("a", ""), true, false},
		{"a", api.Entry{Path: "a", Dir: true, Data: []byte("x")}, true, false},
		{"b", file("b", "1"), true, true},
		{"b", file("b", "4"), true, true},
		{"b", file("b", "14"), true, false},
		{"b", file("b", ""), true, false},
		{"b", dir("b"), true, false},
		{"b", api.Entry{}, false, false},
		{"b", file("c", "2"), true, false},
		{"c", file("c", "2"), true, true},
		{"c", dir("c"), true, true},
		{"c", file("c", ""), true, false},
		{"c", api.Entry{}, false, true},
		{"d", dir("d"), true, true},
		{"d", file("d", "5"), true, true},
		{"d", api.Entry{}, false, true},
		{"e", file("e", "3"), true, true},
		{"e", file("e", "5"), true, false},
		{"e", api.Entry{}, false, true},
		{"f", file("f", ""), true, true},
		{"f", api.Entry{Path: "f"}, true, true},
		{"f", file("f", "x"), true, false},
		{"f", api.Entry{}, false, true},
		{"g", api.Entry{}, false, true},
		{"g", file("g", ""), false, true},
		{"g", file("g", ""), true, false},
		{"g", file("f", ""), true, false},
		{"", api.Entry{}, false, true},
		{"", api.Entry{}, true, false},
		{"a/", dir("a"), true, false},
	} {
		if got := Path(d, want, c.p, c.now, c.is); got != c.may || plainPath(d, want, c.p, c.now, c.is) != c.may {
			t.Errorf("Path of %q with %s, %v = %v", c.p, tell(list(c.now)), c.is, got)
		}
		if got := Path(want, d, c.p, c.now, c.is); got != c.may {
			t.Errorf("Path the other way round of %q with %s, %v = %v", c.p, tell(list(c.now)), c.is, got)
		}
	}
	if !Path(nil, nil, "a", api.Entry{}, false) || Path(nil, nil, "a", api.Entry{}, true) || Path(nil, nil, "", api.Entry{}, true) {
		t.Error("of nothing")
	}
}

// P9.1 to P9.4: answers are memory of their own, no two Data of one share any, and arguments are as they were.
func TestOwnMemory(t *testing.T) {
	shared := []byte("shared")
	l := roomy(list(dir("a"), file("a/b", "1"), dir("b"), file("c", "2"), file("c~", "3"), file("d", "4")))
	l = append(l, api.Entry{Path: "e", Data: shared}, api.Entry{Path: "f", Data: shared})
	s := roomy(list(dir("a"), file("a/b", "5"), file("b", "6"), file("c", "7"), file("e", "8")))
	s = append(s, api.Entry{Path: "x", Data: shared})
	wasL, wasS := deep(l[:cap(l)]), deep(s[:cap(s)])
	checkSame := func(what string) {
		t.Helper()
		if !reflect.DeepEqual(l[:cap(l)], wasL) || !reflect.DeepEqual(s[:cap(s)], wasS) || string(shared) != "shared" {
			t.Fatalf("%s has changed an argument", what)
		}
	}
	for _, p := range policies() {
		for _, pair := range [][2][]api.Entry{{s, l}, {l, s}, {l, l}, {nil, l}, {l, nil}} {
			want, err := Want(pair[0], pair[1], p)
			if err != api.OK {
				t.Fatal(err)
			}
			checkApart(t, want)
			spoil(want)
			checkSame("Want")
			plan, _ := Plan(pair[0], pair[1], p)
			checkSame("Plan")
			for _, x := range plan {
				made, err := Apply(pair[1], x, pair[0])
				if err == api.OK {
					checkApart(t, made)
				}
				spoil(made)
				checkSame("Apply")
			}
		}
	}
	Path(s, l, "c", l[3], true)
	checkSame("Path")
}

// checkApart fills each Data of a list, with its spare room, and looks whether another one has changed.
func checkApart(t *testing.T, l []api.Entry) {
	t.Helper()
	for i := range l {
		b := l[i].Data[:cap(l[i].Data)]
		for j := range b {
			b[j] = byte(i + 1)
		}
	}
	for i, x := range l {
		if bytes.Count(x.Data, []byte{byte(i + 1)}) != len(x.Data) {
			t.Fatal("Data are shared", i, x.Data)
		}
	}
}

// The same arguments, the same answers.
func TestSameAgain(t *testing.T) {
	s, d, p := list(file("a", "new")), list(file("a", "old"), file("b", "x")), api.Policy{Delete: true, Backup: true}
	first, _ := Plan(s, d, p)
	first = slices.Clone(first)
	second, _ := Plan(s, d, p)
	clear(second[:cap(second)])
	third, _ := Plan(s, d, p)
	if !slices.Equal(first, third) {
		t.Error(first, third)
	}
}

// The chapter's example.
func TestExample(t *testing.T) {
	s, d, p := list(file("a", "new")), list(file("a", "old"), file("b", "x")), api.Policy{Delete: true, Backup: true}
	want, err := Want(s, d, p)
	if err != api.OK || tell(want) != tell(list(file("a", "new"), file("a~", "old"), file("b~", "x"))) {
		t.Error(tell(want), err)
	}
	plan, err := Plan(s, d, p)
	if err != api.OK || !slices.Equal(plan, []Step{{Keep, "a", "a~"}, {Keep, "b", "b~"}, {Remove, "b", ""}, {Install, "a", ""}}) {
		t.Error(plan, err)
	}
	if Keep != 0 || Remove != 1 || Mkdir != 2 || Install != 3 {
		t.Error("the kinds' numbers")
	}
}

// read makes a list of lines, each a path, a byte for the kind, and bytes; most that it can as a tree, if so.
func read(lines string, grown bool) []api.Entry {
	var l []api.Entry
	for line := range strings.SplitSeq(lines, "\n") {
		at := strings.IndexAny(line, "\x00\x01")
		if at < 0 {
			continue
		}
		x := api.Entry{Path: line[:at], Dir: line[at] == 1, Data: []byte(line[at+1:])}
		if !grown {
			l = append(l, x)
		} else if made, err := tree.Put(l, x); err == api.OK {
			l = made
		}
	}
	return l
}

// FuzzAll holds all calls upon any lists against the promises' words.
func FuzzAll(f *testing.F) {
	f.Add("a\x00new", "a\x00old\nb\x00x", byte(7), byte(0), "a", "a~")
	f.Add("a\x01\na/b\x001\nc\x002", "a\x00old\nc\x01\nc/d\x00x", byte(6), byte(3), "a/b", "")
	f.Add("a/b\x001", "a\x00", byte(0), byte(9), "a", "")
	f.Fuzz(func(t *testing.T, one, two string, how, kind byte, p, to string) {
		s, d := read(one, how&4 > 0), read(two, how&4 > 0)
		wasS, wasD := deep(s), deep(d)
		checkMerge(t, s, d, api.Policy{Delete: how&1 > 0, Backup: how&2 > 0})
		x := Step{Kind(kind), p, to}
		if tree.Check(s) == api.OK && tree.Check(d) == api.OK {
			got, err := Apply(d, x, s)
			want, meant := plainApply(d, x, s)
			if err != meant || !tree.Same(got, want) {
				t.Errorf("Apply(%s, %v, %s) = %s, %v, want %s, %v", tell(d), x, tell(s), tell(got), err, tell(want), meant)
			}
		} else if got, err := Apply(d, x, s); err == api.OK && tree.Check(got) != api.OK || err != api.OK && got != nil {
			t.Errorf("Apply(%s, %v, %s) = %s, %v", tell(d), x, tell(s), tell(got), err)
		}
		for _, now := range append(slices.Concat(s, d), api.Entry{}, api.Entry{Path: p}) {
			for _, is := range []bool{false, true} {
				if got := Path(d, s, p, now, is); got != plainPath(d, s, p, now, is) {
					t.Errorf("Path(%s, %s, %q, %s, %v) = %v", tell(d), tell(s), p, tell(list(now)), is, got)
				}
			}
		}
		if !reflect.DeepEqual(s, wasS) || !reflect.DeepEqual(d, wasD) {
			t.Error("an argument was changed")
		}
	})
}
