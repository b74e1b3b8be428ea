package disk

import (
	"fmt"
	"maps"
	"math"
	"math/rand"
	"slices"
	"strings"
	"testing"

	"sumpter/api"
	"sumpter/path"
)

// step is a call of a disk that may change it, as plain data.
type step struct {
	call string
	p, q string
	n    int
	done bool
	b    string
}

func create(p string) step       { return step{call: "Create", p: p} }
func lay(p, b string) step       { return step{call: "Append", p: p, b: b} }
func cut(p string, n int) step   { return step{call: "Cut", p: p, n: n} }
func sync(p string) step         { return step{call: "Sync", p: p} }
func mkdir(p string) step        { return step{call: "Mkdir", p: p} }
func remove(p string) step       { return step{call: "Remove", p: p} }
func rename(p, q string) step    { return step{call: "Rename", p: p, q: q} }
func syncDirs() step             { return step{call: "SyncDirs"} }
func crash(n int, k string) step { return step{call: "Crash", n: n, b: k} }
func fails(n int, done bool) step {
	return step{call: "Fail", n: n, done: done}
}
func faults(n int) step { return step{call: "Fault", n: n} }

// on does a step with a disk.
func (s step) on(d *Disk) api.Errno {
	switch s.call {
	case "Create":
		return d.Create(s.p)
	case "Append":
		return d.Append(s.p, []byte(s.b))
	case "Cut":
		return d.Cut(s.p, s.n)
	case "Sync":
		return d.Sync(s.p)
	case "Mkdir":
		return d.Mkdir(s.p)
	case "Remove":
		return d.Remove(s.p)
	case "Rename":
		return d.Rename(s.p, s.q)
	case "SyncDirs":
		return d.SyncDirs()
	case "Fail":
		return d.Fail(s.n, s.done)
	case "Fault":
		return d.Fault(s.n)
	case "Crash":
		d.Crash(s.n, []byte(s.b))
		return api.OK
	}
	panic(s.call)
}

// made is a disk with which steps were done, none of which may go wrong.
func made(t testing.TB, capacity int, steps ...step) *Disk {
	t.Helper()
	d := New(capacity)
	for _, s := range steps {
		if err := s.on(d); err != api.OK {
			t.Fatalf("%+v: %v", s, err)
		}
	}
	return d
}

// places are the paths that are looked at here, and some texts that are none.
var places = []string{"", "a", "b", "c", "a/x", "b/x", "b/x/y", "a.x", "/", "a/"}

// tell is all that the looks tell of a disk, as a text.
func tell(d *Disk) string {
	var s strings.Builder
	fmt.Fprintf(&s, "down %v, ops %d, used %d:", d.Down(), d.Ops(), d.Used())
	for _, x := range d.List() {
		fmt.Fprintf(&s, " %s", showEntry(x.Path, x.Dir, string(x.Data)))
	}
	for _, p := range places {
		b, err := d.Read(p)
		fmt.Fprintf(&s, " (%q %d %d)", b, err, d.Safe(p))
	}
	return s.String()
}

func showEntry(p string, dir bool, data string) string {
	if dir {
		return p + "/ " + data
	}
	return p + " = " + data
}

// list is what List tells, as a text.
func list(d *Disk) string {
	var l []string
	for _, x := range d.List() {
		l = append(l, showEntry(x.Path, x.Dir, string(x.Data)))
	}
	return strings.Join(l, ", ")
}

// plainFile is a file or a directory of a plain disk.
type plainFile struct {
	dir  bool
	data string
	safe int
}

// plain is a disk by the words of the chapter, one by one: the names behind each of the loose changes are written down whole.
type plain struct {
	capacity    int
	past        []map[string]*plainFile // behind 0, 1 .. of the loose changes; the last ones are those that are seen
	ops         int
	down        bool
	fail, fault int // how many calls are ahead of it, and -1, if there is none
	done        bool
}

func newPlain(capacity int) *plain {
	return &plain{capacity: capacity, past: []map[string]*plainFile{{}}, fail: -1, fault: -1}
}

func (d *plain) names() map[string]*plainFile { return d.past[len(d.past)-1] }

func (d *plain) used() int {
	n := 0
	for _, f := range d.names() {
		n += len(f.data)
	}
	return n
}

// parent is the error of a path's parent.
func (d *plain) parent(p string) api.Errno {
	dir := path.Parent(p)
	if dir == "" {
		return api.OK
	}
	f, is := d.names()[dir]
	if !is {
		return api.ErrNone
	}
	if !f.dir {
		return api.ErrKind
	}
	return api.OK
}

// check is the error of P14.1.
func (d *plain) check(s step) api.Errno {
	if d.down {
		return api.ErrDown
	}
	if s.call != "SyncDirs" {
		if err := path.Check(s.p); err != api.OK {
			return err
		}
	}
	if s.call == "Rename" {
		if err := path.Check(s.q); err != api.OK {
			return err
		}
	}
	f, is := d.names()[s.p]
	switch s.call {
	case "Create", "Mkdir":
		if err := d.parent(s.p); err != api.OK {
			return err
		}
		if is {
			return api.ErrThere
		}
	case "Append", "Cut", "Sync":
		if !is {
			return api.ErrNone
		}
		if f.dir {
			return api.ErrKind
		}
		if s.call == "Append" && d.used()+len(s.b) > d.capacity {
			return api.ErrFull
		}
		if s.call == "Cut" && (s.n < 0 || s.n > len(f.data)) {
			return api.ErrRange
		}
	case "Remove":
		if !is {
			return api.ErrNone
		}
		for p := range d.names() {
			if f.dir && path.Under(p, s.p) {
				return api.ErrFull
			}
		}
	case "Rename":
		if !is {
			return api.ErrNone
		}
		if f.dir {
			return api.ErrKind
		}
		if err := d.parent(s.q); err != api.OK {
			return err
		}
		if g, is := d.names()[s.q]; is && g.dir {
			return api.ErrKind
		}
	}
	return api.OK
}

// act is P14.2.
func (d *plain) act(s step) {
	f := d.names()[s.p]
	next := maps.Clone(d.names())
	switch s.call {
	case "Append":
		f.data += s.b
		return
	case "Cut":
		f.data, f.safe = f.data[:s.n], min(f.safe, s.n)
		return
	case "Sync":
		f.safe = len(f.data)
		return
	case "SyncDirs":
		d.past = d.past[len(d.past)-1:]
		return
	case "Create":
		next[s.p] = &plainFile{}
	case "Mkdir":
		next[s.p] = &plainFile{dir: true}
	case "Remove":
		delete(next, s.p)
	case "Rename":
		delete(next, s.p)
		next[s.q] = f
	}
	d.past = append(d.past, next)
}

// on does a step with a plain disk: P14.3 and P14.4.
func (s step) onPlain(d *plain) api.Errno {
	switch s.call {
	case "Fail", "Fault":
		if d.down {
			return api.ErrDown
		}
		if s.n < 0 {
			return api.ErrArg
		}
		if s.call == "Fail" {
			d.fail, d.done = s.n, s.done
		} else {
			d.fault = s.n
		}
		return api.OK
	case "Crash":
		d.crash(s.n, s.b)
		return api.OK
	}
	if err := d.check(s); err != api.OK {
		return err
	}
	d.ops++
	d.fail, d.fault = d.fail-1, d.fault-1 // -1 now: this is the one; below: there is none
	switch {
	case d.fail == -1:
		d.down = true
		if d.done {
			d.act(s)
		}
		return api.ErrDown
	case d.fault == -1:
		return api.ErrIO
	}
	d.fail, d.fault = max(d.fail, -1), max(d.fault, -1)
	d.act(s)
	return api.OK
}

func (d *plain) crash(names int, keep string) {
	d.past = d.past[:max(min(names+1, len(d.past)), 1)]
	d.past = d.past[len(d.past)-1:]
	for _, p := range d.paths() {
		f := d.names()[p]
		loose := len(f.data) - f.safe
		if loose == 0 {
			continue
		}
		stay := 0
		if keep != "" {
			stay, keep = int(keep[0])%(loose+1), keep[1:]
		}
		f.data = f.data[:f.safe+stay]
		f.safe = len(f.data)
	}
	d.down, d.fail, d.fault = false, -1, -1
}

func (d *plain) paths() []string {
	return slices.SortedFunc(maps.Keys(d.names()), func(a, b string) int {
		if path.Less(a, b) {
			return -1
		}
		return 1
	})
}

// tell is what tell is of a disk.
func (d *plain) tell() string {
	var s strings.Builder
	fmt.Fprintf(&s, "down %v, ops %d, used %d:", d.down, d.ops, d.used())
	for _, p := range d.paths() {
		if f := d.names()[p]; !d.down {
			fmt.Fprintf(&s, " %s", showEntry(p, f.dir, f.data))
		}
	}
	for _, p := range places {
		f, is := d.names()[p]
		err, safe, b := api.OK, 0, ""
		if is {
			safe, b = f.safe, f.data
		}
		switch {
		case d.down:
			err, b = api.ErrDown, ""
		case !is:
			err = api.ErrNone
		case f.dir:
			err = api.ErrKind
		}
		fmt.Fprintf(&s, " (%q %d %d)", b, err, safe)
	}
	return s.String()
}

func (d *plain) fork() *plain {
	files := map[*plainFile]*plainFile{}
	g := *d
	g.past = nil
	for _, names := range d.past {
		next := map[string]*plainFile{}
		for p, f := range names {
			if files[f] == nil {
				c := *f
				files[f] = &c
			}
			next[p] = files[f]
		}
		g.past = append(g.past, next)
	}
	return &g
}

// P14.2, P14.4: the chapter's example.
func TestExample(t *testing.T) {
	begin := []step{create("t"), lay("t", "ab"), sync("t"), rename("t", "a")}
	for _, c := range []struct {
		more []step
		want string
	}{
		{[]step{crash(0, "")}, ""},
		{[]step{syncDirs(), crash(0, "")}, "a = ab"},
		{[]step{crash(1, "")}, "t = ab"},
		{[]step{crash(2, "")}, "a = ab"},
	} {
		if got := list(made(t, 100, append(slices.Clone(begin), c.more...)...)); got != c.want {
			t.Errorf("%+v: %q, not %q", c.more, got, c.want)
		}
	}
}

// P14.1: each error, and where several apply the first one; nothing has changed then, and nothing counts in Ops.
func TestErrors(t *testing.T) {
	long := strings.Repeat("a", api.MaxPath+1)
	deep := strings.Repeat("a/", api.MaxDepth) + "a"
	begin := []step{create("f"), lay("f", "1234"), mkdir("d"), create("d/g"), lay("d/g", "56"), mkdir("e")}
	for _, c := range []struct {
		s    step
		want api.Errno
	}{
		{create(""), api.ErrName}, {create("a//b"), api.ErrName}, {create("/a"), api.ErrName}, {create("a/"), api.ErrName},
		{create(".."), api.ErrName}, {create("a b"), api.ErrName}, {create(long), api.ErrLong}, {create(deep), api.ErrLong},
		{create("q/a"), api.ErrNone}, {create("q/r/a"), api.ErrNone}, {create("f/a"), api.ErrKind}, {create("f/a/b"), api.ErrNone},
		{create("d/g/a"), api.ErrKind}, {create("f"), api.ErrThere}, {create("d"), api.ErrThere}, {create("d/g"), api.ErrThere},
		{create("d/h"), api.OK}, {create("a"), api.OK}, {create(".sumpter"), api.OK}, {create(long[:32]), api.OK}, {create(long[:33]), api.ErrName},

		{mkdir(""), api.ErrName}, {mkdir("a//b"), api.ErrName}, {mkdir(long), api.ErrLong}, {mkdir(deep), api.ErrLong},
		{mkdir("q/a"), api.ErrNone}, {mkdir("f/a"), api.ErrKind}, {mkdir("f/a/b"), api.ErrNone}, {mkdir("f"), api.ErrThere}, {mkdir("d"), api.ErrThere},
		{mkdir("d/h"), api.OK}, {mkdir("a"), api.OK},

		{lay("", ""), api.ErrName}, {lay(long, ""), api.ErrLong}, {lay("q", ""), api.ErrNone}, {lay("q/r", ""), api.ErrNone}, {lay("f/r", ""), api.ErrNone},
		{lay("d", ""), api.ErrKind}, {lay("e", "12345"), api.ErrKind}, {lay("q", "12345"), api.ErrNone}, {lay("f", "12345"), api.ErrFull}, {lay("d/g", "12345"), api.ErrFull},
		{lay("f", "1234"), api.OK}, {lay("d/g", "1234"), api.OK}, {lay("f", ""), api.OK},

		{cut("", 0), api.ErrName}, {cut(long, 0), api.ErrLong}, {cut("q", -1), api.ErrNone}, {cut("d", -1), api.ErrKind},
		{cut("f", -1), api.ErrRange}, {cut("f", 5), api.ErrRange}, {cut("f", math.MinInt), api.ErrRange}, {cut("f", math.MaxInt), api.ErrRange}, {cut("d/g", 3), api.ErrRange},
		{cut("f", 4), api.OK}, {cut("f", 0), api.OK}, {cut("d/g", 2), api.OK},

		{sync(""), api.ErrName}, {sync(long), api.ErrLong}, {sync("q"), api.ErrNone}, {sync("d"), api.ErrKind}, {sync("f"), api.OK},

		{remove(""), api.ErrName}, {remove(long), api.ErrLong}, {remove("q"), api.ErrNone}, {remove("f/a"), api.ErrNone}, {remove("d"), api.ErrFull},
		{remove("f"), api.OK}, {remove("d/g"), api.OK}, {remove("e"), api.OK},

		{rename("", long), api.ErrName}, {rename(long, ""), api.ErrLong}, {rename("f", ""), api.ErrName}, {rename("f", long), api.ErrLong}, {rename("q", "a/"), api.ErrName},
		{rename("q", "q/a"), api.ErrNone}, {rename("q", "f/a"), api.ErrNone}, {rename("q", "d"), api.ErrNone}, {rename("q", "q"), api.ErrNone},
		{rename("d", "q/a"), api.ErrKind}, {rename("d", "d"), api.ErrKind}, {rename("e", "a"), api.ErrKind}, {rename("e", "d/h"), api.ErrKind},
		{rename("f", "q/a"), api.ErrNone}, {rename("f", "f/a"), api.ErrKind}, {rename("f", "d/g/a"), api.ErrKind}, {rename("f", "f/a/b"), api.ErrNone},
		{rename("f", "d"), api.ErrKind}, {rename("f", "e"), api.ErrKind}, {rename("d/g", "d"), api.ErrKind},
		{rename("f", "f"), api.OK}, {rename("f", "a"), api.OK}, {rename("f", "e/a"), api.OK}, {rename("f", "d/g"), api.OK}, {rename("d/g", "f"), api.OK},

		{syncDirs(), api.OK},
	} {
		d := made(t, 10, begin...)
		was := tell(d)
		if got := c.s.on(d); got != c.want {
			t.Errorf("%+v: %d, not %d", c.s, got, c.want)
		}
		if now := tell(d); c.want != api.OK && now != was {
			t.Errorf("%+v: %s, not %s", c.s, now, was)
		}
		if want := len(begin) + 1; c.want == api.OK && d.Ops() != want {
			t.Errorf("%+v: %d ops, not %d", c.s, d.Ops(), want)
		}
		none := step{call: c.s.call, p: c.s.p, q: c.s.q, n: c.s.n, b: c.s.b}
		if got := none.on(nil); got != api.ErrNil {
			t.Errorf("%+v of nil: %d", c.s, got)
		}
		d.Fail(0, false)
		d.SyncDirs()
		was = tell(d)
		if got := c.s.on(d); got != api.ErrDown || tell(d) != was {
			t.Errorf("%+v without power: %d, %s, not %s", c.s, got, tell(d), was)
		}
	}
}

// P14.2: what each call does, as the looks tell it.
func TestWhatCallsDo(t *testing.T) {
	begin := []step{mkdir("d"), create("f"), lay("f", "1234"), sync("f"), lay("f", "56"), create("g"), lay("g", "xy")}
	for _, c := range []struct {
		more []step
		want string
		safe string // of f, g, h, d, d/f
		used int
	}{
		{nil, "d/ , f = 123456, g = xy", "4 0 0 0 0", 8},
		{[]step{create("h")}, "d/ , f = 123456, g = xy, h = ", "4 0 0 0 0", 8},
		{[]step{mkdir("h")}, "d/ , f = 123456, g = xy, h/ ", "4 0 0 0 0", 8},
		{[]step{create("d/f"), mkdir("d/e"), create("d.f")}, "d/ , d/e/ , d/f = , d.f = , f = 123456, g = xy", "4 0 0 0 0", 8},
		{[]step{lay("f", "78")}, "d/ , f = 12345678, g = xy", "4 0 0 0 0", 10},
		{[]step{lay("f", "")}, "d/ , f = 123456, g = xy", "4 0 0 0 0", 8},
		{[]step{lay("g", "z"), sync("g")}, "d/ , f = 123456, g = xyz", "4 3 0 0 0", 9},
		{[]step{cut("f", 6)}, "d/ , f = 123456, g = xy", "4 0 0 0 0", 8},
		{[]step{cut("f", 5)}, "d/ , f = 12345, g = xy", "4 0 0 0 0", 7},
		{[]step{cut("f", 4)}, "d/ , f = 1234, g = xy", "4 0 0 0 0", 6},
		{[]step{cut("f", 3)}, "d/ , f = 123, g = xy", "3 0 0 0 0", 5},
		{[]step{cut("f", 0)}, "d/ , f = , g = xy", "0 0 0 0 0", 2},
		{[]step{cut("f", 3), lay("f", "abc")}, "d/ , f = 123abc, g = xy", "3 0 0 0 0", 8},
		{[]step{sync("f")}, "d/ , f = 123456, g = xy", "6 0 0 0 0", 8},
		{[]step{syncDirs()}, "d/ , f = 123456, g = xy", "4 0 0 0 0", 8},
		{[]step{remove("f")}, "d/ , g = xy", "0 0 0 0 0", 2},
		{[]step{remove("d")}, "f = 123456, g = xy", "4 0 0 0 0", 8},
		{[]step{remove("f"), create("f")}, "d/ , f = , g = xy", "0 0 0 0 0", 2},
		{[]step{remove("f"), mkdir("f")}, "d/ , f/ , g = xy", "0 0 0 0 0", 2},
		{[]step{rename("f", "h")}, "d/ , g = xy, h = 123456", "0 0 4 0 0", 8},
		{[]step{rename("f", "d/f")}, "d/ , d/f = 123456, g = xy", "0 0 0 0 4", 8},
		{[]step{rename("f", "g")}, "d/ , g = 123456", "0 4 0 0 0", 6},
		{[]step{rename("g", "f")}, "d/ , f = xy", "0 0 0 0 0", 2},
		{[]step{rename("f", "f")}, "d/ , f = 123456, g = xy", "4 0 0 0 0", 8},
		{[]step{rename("f", "g"), lay("g", "7")}, "d/ , g = 1234567", "0 4 0 0 0", 7},
	} {
		d := made(t, 100, append(slices.Clone(begin), c.more...)...)
		safe := fmt.Sprint(d.Safe("f"), d.Safe("g"), d.Safe("h"), d.Safe("d"), d.Safe("d/f"))
		if got := list(d); got != c.want || safe != c.safe || d.Used() != c.used {
			t.Errorf("%+v: %q, safe %s, used %d, not %q, %s, %d", c.more, got, safe, d.Used(), c.want, c.safe, c.used)
		}
		if want := len(begin) + len(c.more); d.Ops() != want {
			t.Errorf("%+v: %d ops, not %d", c.more, d.Ops(), want)
		}
	}
}

// P14.1, P14.5: how many bytes there may be; what a crash brings back may be more, and then not even nothing may be laid behind.
func TestCapacity(t *testing.T) {
	for _, c := range []struct{ capacity, room int }{
		{math.MinInt, 0}, {-1, 0}, {0, 0}, {1, 1}, {5, 5}, {api.MaxDisk - 1, api.MaxDisk - 1},
		{api.MaxDisk, api.MaxDisk}, {api.MaxDisk + 1, api.MaxDisk}, {math.MaxInt, api.MaxDisk},
	} {
		d := made(t, c.capacity, create("a"), create("b"), lay("a", ""))
		if err := d.Append("a", make([]byte, c.room+1)); err != api.ErrFull {
			t.Errorf("%d: one more: %d", c.capacity, err)
		}
		if err := d.Append("a", make([]byte, c.room)); err != api.OK || d.Used() != c.room {
			t.Errorf("%d: all: %d, used %d", c.capacity, err, d.Used())
		}
		if err := d.Append("b", []byte{1}); err != api.ErrFull {
			t.Errorf("%d: one in another file: %d", c.capacity, err)
		}
		if err := d.Append("b", nil); err != api.OK {
			t.Errorf("%d: nothing: %d", c.capacity, err)
		}
	}

	d := made(t, 4, create("a"), lay("a", "12"), sync("a"), create("b"), lay("b", "34"), sync("b"), syncDirs(),
		rename("a", "b"), lay("b", "56"), sync("b"), crash(0, ""))
	if got := list(d); got != "a = 1256, b = 34" || d.Used() != 6 {
		t.Fatalf("%s, used %d", got, d.Used())
	}
	if err := d.Append("a", nil); err != api.ErrFull {
		t.Errorf("nothing behind too much: %d", err)
	}
	if err := d.Cut("a", 2); err != api.OK {
		t.Error(err)
	}
	if err := d.Append("a", nil); err != api.OK {
		t.Errorf("nothing behind just enough: %d", err)
	}
	if err := d.Remove("b"); err != api.OK {
		t.Error(err)
	}
	if err := d.Append("a", []byte("78")); err != api.OK || d.Used() != 4 {
		t.Errorf("%d, used %d", err, d.Used())
	}
}

// each is a step of each of the eight calls that finds no error on the disk of eachBegin, with what it leaves.
var eachBegin = []step{create("f"), lay("f", "12"), create("g")}
var each = []step{create("h"), lay("f", "3"), cut("f", 1), sync("f"), mkdir("h"), remove("g"), rename("f", "g"), syncDirs()}

// state is all of a disk that can be found out: the looks, and what a crash leaves.
func state(d *Disk) string {
	s := tell(d)
	for n := range 6 {
		f := d.Fork()
		f.Crash(n, []byte{1})
		s += " / " + list(f)
	}
	return s
}

// P14.3: the call at which the power fails, or that goes wrong, is the one that is meant, whichever call it is; it is done, or not; both count.
func TestFailAndFault(t *testing.T) {
	for _, s := range each {
		undone := made(t, 10, eachBegin...)
		all := undone.Fork()
		if err := s.on(all); err != api.OK {
			t.Fatal(s, err)
		}

		d := undone.Fork()
		if err := d.Fault(0); err != api.OK || d.Ops() != 3 {
			t.Errorf("Fault: %d", err)
		}
		err := s.on(d)
		want := undone.Fork()
		want.ops++
		if err != api.ErrIO || state(d) != state(want) {
			t.Errorf("%+v with a fault: %d, %s, not %s", s, err, state(d), state(want))
		}
		if err := s.on(d); err != api.OK { // all goes on
			t.Errorf("%+v behind a fault: %d", s, err)
		}

		for _, done := range []bool{false, true} {
			d := undone.Fork()
			if err := d.Fail(0, done); err != api.OK || d.Down() {
				t.Errorf("Fail: %d", err)
			}
			err := s.on(d)
			want := undone.Fork()
			if done {
				want = all.Fork()
			}
			want.ops, want.down = 4, true
			if err != api.ErrDown || state(d) != state(want) {
				t.Errorf("%+v, done %v: %d, %s, not %s", s, done, err, state(d), state(want))
			}
			if err := s.on(d); err != api.ErrDown || d.Ops() != 4 {
				t.Errorf("%+v without power: %d, %d ops", s, err, d.Ops())
			}
		}
	}
}

// run does steps, and tells their errors.
func run(d *Disk, steps ...step) string {
	var l []string
	for _, s := range steps {
		l = append(l, fmt.Sprint(int(s.on(d))))
	}
	return strings.Join(l, " ")
}

// P14.3: which calls count, and what takes the place of what. ErrDown is 11, ErrIO 12, ErrArg 2, ErrNone 8.
func TestTraps(t *testing.T) {
	ok, wrong := syncDirs(), sync("q")
	for _, c := range []struct {
		steps []step
		want  string
		ops   int
	}{
		{[]step{faults(0), ok, ok}, "0 12 0", 2},
		{[]step{faults(1), ok, ok, ok}, "0 0 12 0", 3},
		{[]step{faults(2), ok, wrong, ok, wrong, ok, ok}, "0 0 8 0 8 12 0", 4},
		{[]step{faults(0), wrong, ok, ok}, "0 8 12 0", 2},
		{[]step{fails(0, true), wrong, ok, ok}, "0 8 11 11", 1},
		{[]step{fails(1, true), wrong, ok, wrong, ok, wrong}, "0 8 0 8 11 11", 2},
		{[]step{faults(0), faults(1), ok, ok, ok}, "0 0 0 12 0", 3},
		{[]step{faults(1), faults(0), ok, ok, ok}, "0 0 12 0 0", 3},
		{[]step{fails(0, true), fails(1, true), ok, ok, ok}, "0 0 0 11 11", 2},
		{[]step{fails(2, true), ok, fails(0, true), ok}, "0 0 0 11", 2},
		{[]step{faults(0), fails(1, true), ok, ok, ok}, "0 0 12 11 11", 2}, // the one that goes wrong counts for the other one
		{[]step{faults(1), fails(0, true), ok, ok}, "0 0 11 11", 1},
		{[]step{faults(0), fails(0, true), ok}, "0 0 11", 1},
		{[]step{fails(0, true), faults(0), ok}, "0 0 11", 1},
		{[]step{faults(1), ok, fails(0, true), ok}, "0 0 0 11", 2},
		{[]step{faults(-1), ok, fails(-1, true), ok}, "2 0 2 0", 2},
		{[]step{faults(math.MinInt), fails(math.MinInt, true), ok}, "2 2 0", 1},
		{[]step{faults(0), faults(-1), ok, ok}, "0 2 12 0", 2}, // the wrong one takes no place
		{[]step{fails(0, true), fails(-1, true), ok}, "0 2 11", 1},
		{[]step{faults(math.MaxInt), fails(math.MaxInt, true), ok, ok}, "0 0 0 0", 2},
		{[]step{ok, ok, faults(math.MaxInt), fails(math.MaxInt, true), ok, ok}, "0 0 0 0 0 0", 4},
		{[]step{faults(math.MaxInt), faults(0), ok}, "0 0 12", 1},
		{[]step{fails(0, true), ok, fails(0, true), faults(0), fails(-1, true), faults(-1)}, "0 11 11 11 11 11", 1},
		{[]step{fails(0, true), ok, crash(0, ""), ok, ok}, "0 11 0 0 0", 3},
		{[]step{fails(1, true), faults(0), crash(0, ""), ok, ok, ok}, "0 0 0 0 0 0", 3}, // forgotten
		{[]step{fails(0, true), faults(3), ok, crash(0, ""), ok, ok, ok, ok, ok}, "0 0 11 0 0 0 0 0 0", 6},
		{[]step{crash(0, ""), crash(1, "abc")}, "0 0", 0},
	} {
		d := New(10)
		if got := run(d, c.steps...); got != c.want || d.Ops() != c.ops {
			t.Errorf("%+v: %s, %d ops, not %s, %d", c.steps, got, d.Ops(), c.want, c.ops)
		}
	}
}

// P14.3: where the power fails as Fail says it is done as it says, also if another one was said first, or a fault is meant, too.
func TestFailDone(t *testing.T) {
	for _, c := range []struct {
		steps []step
		want  string
	}{
		{[]step{fails(0, true)}, "a = "},
		{[]step{fails(0, false)}, ""},
		{[]step{fails(0, true), fails(0, false)}, ""},
		{[]step{fails(0, false), fails(0, true)}, "a = "},
		{[]step{fails(0, true), faults(0)}, "a = "},
		{[]step{faults(0), fails(0, true)}, "a = "},
		{[]step{faults(0), fails(0, false)}, ""},
		{[]step{fails(0, true), fails(-1, false)}, "a = "},
	} {
		d := New(10)
		run(d, c.steps...)
		if err := d.Create("a"); err != api.ErrDown {
			t.Errorf("%+v: %d", c.steps, err)
		}
		d.Crash(1, nil)
		if got := list(d); got != c.want {
			t.Errorf("%+v: %q, not %q", c.steps, got, c.want)
		}
	}
}

// P14.4: which of the loose names stay.
func TestCrashNames(t *testing.T) {
	begin := []step{create("a"), lay("a", "1"), sync("a"), create("b"), lay("b", "2"), sync("b"), mkdir("d"), syncDirs()}
	behind := func(steps ...step) []step { return append(slices.Clone(begin), steps...) }
	for _, c := range []struct {
		steps []step
		want  []string // behind Crash of 0, 1 ..
	}{
		{behind(), []string{"a = 1, b = 2, d/ ", "a = 1, b = 2, d/ "}},
		{behind(create("c")), []string{"a = 1, b = 2, d/ ", "a = 1, b = 2, c = , d/ "}},
		{behind(mkdir("c")), []string{"a = 1, b = 2, d/ ", "a = 1, b = 2, c/ , d/ "}},
		{behind(remove("a")), []string{"a = 1, b = 2, d/ ", "b = 2, d/ "}},
		{behind(remove("d")), []string{"a = 1, b = 2, d/ ", "a = 1, b = 2"}},
		{behind(rename("a", "b")), []string{"a = 1, b = 2, d/ ", "b = 1, d/ "}},
		{behind(rename("a", "c")), []string{"a = 1, b = 2, d/ ", "b = 2, c = 1, d/ "}},
		{behind(rename("a", "c"), rename("b", "a"), rename("c", "b")), []string{"a = 1, b = 2, d/ ", "b = 2, c = 1, d/ ", "a = 2, c = 1, d/ ", "a = 2, b = 1, d/ "}},
		{behind(rename("a", "d/a"), remove("b"), rename("d/a", "b"), remove("d"), create("d")),
			[]string{"a = 1, b = 2, d/ ", "b = 2, d/ , d/a = 1", "d/ , d/a = 1", "b = 1, d/ ", "b = 1", "b = 1, d = "}},
		{behind(rename("a", "a"), create("c")), []string{"a = 1, b = 2, d/ ", "a = 1, b = 2, d/ ", "a = 1, b = 2, c = , d/ "}}, // it counts
		{behind(remove("a"), mkdir("a"), create("a/x")), []string{"a = 1, b = 2, d/ ", "b = 2, d/ ", "a/ , b = 2, d/ ", "a/ , a/x = , b = 2, d/ "}},
		{behind(remove("a"), create("a"), lay("a", "3"), sync("a")), []string{"a = 1, b = 2, d/ ", "b = 2, d/ ", "a = 3, b = 2, d/ "}},
		{behind(rename("a", "b"), lay("b", "3"), sync("b")), []string{"a = 13, b = 2, d/ ", "b = 13, d/ "}}, // the bytes go with the file, not with its name
		{behind(rename("a", "b"), cut("b", 0)), []string{"a = , b = 2, d/ ", "b = , d/ "}},
		{behind(create("c"), syncDirs(), remove("c")), []string{"a = 1, b = 2, c = , d/ ", "a = 1, b = 2, d/ "}},
		{behind(remove("a"), crash(1, "")), []string{"b = 2, d/ ", "b = 2, d/ "}}, // what stayed is safe
		{behind(remove("a"), crash(0, "")), []string{"a = 1, b = 2, d/ ", "a = 1, b = 2, d/ "}},
	} {
		d := made(t, 100, c.steps...)
		most := len(c.want) - 1
		for _, n := range []int{math.MinInt, -1, 0, 1, 2, 3, 4, 5, 6, 7, math.MaxInt} {
			f := d.Fork()
			f.Crash(n, nil)
			want := c.want[min(max(n, 0), most)]
			if got := list(f); got != want || f.Ops() != d.Ops() {
				t.Errorf("%+v: Crash(%d): %q, not %q; %d ops", c.steps[len(begin):], n, got, want, f.Ops())
			}
			f.Crash(0, nil)
			if got := list(f); got != want {
				t.Errorf("%+v: Crash(%d), and once more: %q, not %q", c.steps[len(begin):], n, got, want)
			}
		}
	}
}

// P14.4: which of the loose bytes stay; by path.Less a/x stands ahead of a.x; directories and files without loose bytes take nothing.
func TestCrashBytes(t *testing.T) {
	begin := []step{create("a.x"), lay("a.x", "123"), mkdir("a"), create("a/x"), lay("a/x", "45"), sync("a/x"), lay("a/x", "67"),
		create("b"), lay("b", "8"), sync("b"), create("c"), create("d"), lay("d", "90"), syncDirs()}
	for _, c := range []struct {
		keep string
		want string
	}{
		{"", "a/ , a/x = 45, a.x = , b = 8, c = , d = "},
		{"\x00\x00\x00", "a/ , a/x = 45, a.x = , b = 8, c = , d = "},
		{"\x01", "a/ , a/x = 456, a.x = , b = 8, c = , d = "},
		{"\x01\x02", "a/ , a/x = 456, a.x = 12, b = 8, c = , d = "},
		{"\x01\x02\x01", "a/ , a/x = 456, a.x = 12, b = 8, c = , d = 9"},
		{"\x02\x03\x02", "a/ , a/x = 4567, a.x = 123, b = 8, c = , d = 90"},
		{"\x03\x04\x03", "a/ , a/x = 45, a.x = , b = 8, c = , d = "},
		{"\x04\x05\x04", "a/ , a/x = 456, a.x = 1, b = 8, c = , d = 9"},
		{"\xff\xff\xff", "a/ , a/x = 45, a.x = 123, b = 8, c = , d = "}, // 255 is 0 modulo 3, and 3 modulo 4
		{"\x01\x02\x01\x01\x01", "a/ , a/x = 456, a.x = 12, b = 8, c = , d = 9"},
	} {
		d := made(t, 100, begin...)
		d.Crash(0, []byte(c.keep))
		if got := list(d); got != c.want {
			t.Errorf("%q: %q, not %q", c.keep, got, c.want)
		}
		used := 0
		for _, x := range d.List() {
			used += len(x.Data)
			if d.Safe(x.Path) != len(x.Data) {
				t.Errorf("%q: %s: %d of %d are safe", c.keep, x.Path, d.Safe(x.Path), len(x.Data))
			}
		}
		if d.Used() != used {
			t.Errorf("%q: used %d, not %d", c.keep, d.Used(), used)
		}
		d.Crash(0, []byte("\x01\x01\x01"))
		if got := list(d); got != c.want {
			t.Errorf("%q, and once more: %q, not %q", c.keep, got, c.want)
		}
	}

	big := made(t, 1000, create("a"), lay("a", strings.Repeat("x", 600)), syncDirs())
	big.Crash(0, []byte{255})
	if big.Used() != 255 {
		t.Errorf("of 600 loose ones %d stay", big.Used())
	}
}

// P14.4: files take of keep that are there behind the names, at the paths that they have then.
func TestCrashBytesBehindNames(t *testing.T) {
	begin := []step{create("b"), lay("b", "1234"), create("c"), lay("c", "5678"), syncDirs(), rename("c", "a"), remove("b")}
	for _, c := range []struct {
		names int
		want  string
	}{
		{0, "b = 1, c = 56"},
		{1, "a = 5, b = 12"},
		{2, "a = 5"},
	} {
		d := made(t, 100, begin...)
		d.Crash(c.names, []byte{1, 2, 3})
		if got := list(d); got != c.want {
			t.Errorf("%d: %q, not %q", c.names, got, c.want)
		}
	}
}

// P14.4: with power and without, a crash leaves the same, and the power is there.
func TestCrashBringsPower(t *testing.T) {
	d := made(t, 10, eachBegin...)
	f := d.Fork()
	f.Fail(0, false)
	f.SyncDirs()
	if !f.Down() || d.Down() {
		t.Fatal("the power")
	}
	for _, x := range []*Disk{d, f} {
		x.Crash(1, []byte{1})
		if got := list(x); got != "f = 1" || x.Down() || x.Used() != 1 {
			t.Errorf("%q, down %v, used %d", got, x.Down(), x.Used())
		}
		if err := x.Append("f", []byte("x")); err != api.OK {
			t.Error(err)
		}
	}
	if d.Ops() != 4 || f.Ops() != 5 {
		t.Errorf("%d and %d ops", d.Ops(), f.Ops())
	}
}

// P14.5: the looks, with power and without.
func TestLooks(t *testing.T) {
	d := made(t, 10, create("f"), lay("f", "123"), sync("f"), lay("f", "4"), mkdir("d"))
	long := strings.Repeat("a/", 1<<24)
	for _, c := range []struct {
		p    string
		want string
		err  api.Errno
		safe int
	}{
		{"f", "1234", api.OK, 3}, {"d", "", api.ErrKind, 0}, {"q", "", api.ErrNone, 0}, {"d/f", "", api.ErrNone, 0}, {"f/f", "", api.ErrNone, 0},
		{"", "", api.ErrNone, 0}, {"/", "", api.ErrNone, 0}, {"f/", "", api.ErrNone, 0}, {"d//f", "", api.ErrNone, 0}, {"\x00", "", api.ErrNone, 0}, {long, "", api.ErrNone, 0},
	} {
		b, err := d.Read(c.p)
		if string(b) != c.want || err != c.err || d.Safe(c.p) != c.safe {
			t.Errorf("%.20q: %q, %d, safe %d", c.p, b, err, d.Safe(c.p))
		}
	}
	if d.Used() != 4 || d.Ops() != 5 || d.Down() {
		t.Errorf("used %d, %d ops, down %v", d.Used(), d.Ops(), d.Down())
	}
	d.Fail(0, true)
	d.Mkdir("e")
	for _, p := range []string{"f", "d", "q", "", long} {
		if b, err := d.Read(p); b != nil || err != api.ErrDown {
			t.Errorf("%.20q without power: %q, %d", p, b, err)
		}
	}
	if d.List() != nil || !d.Down() || d.Used() != 4 || d.Safe("f") != 3 || d.Safe("d") != 0 || d.Ops() != 6 {
		t.Errorf("without power: %d used, %d safe, %d ops", d.Used(), d.Safe("f"), d.Ops())
	}
	if n := New(7); n.List() != nil || n.Used() != 0 || n.Ops() != 0 || n.Down() {
		t.Error("a new one")
	}
}

// P14.5: List by path.Less.
func TestListOrder(t *testing.T) {
	d := made(t, 0, create("b"), mkdir("a"), create("a.b"), create("a-"), mkdir("a/c"), create("a/b"), create("a/c/z"), create("a/c-"), create("A"), create("a~"))
	want := "A = , a/ , a/b = , a/c/ , a/c/z = , a/c- = , a- = , a.b = , a~ = , b = "
	if got := list(d); got != want {
		t.Errorf("%q, not %q", got, want)
	}
}

// P14.1, P14.3, P14.5: of nil.
func TestNil(t *testing.T) {
	var d *Disk
	for _, s := range append(slices.Clone(each), fails(0, true), fails(-1, true), faults(0), faults(-1), create("")) {
		if err := s.on(d); err != api.ErrNil {
			t.Errorf("%+v: %d", s, err)
		}
	}
	d.Crash(1, []byte{1})
	b, err := d.Read("a")
	if b != nil || err != api.ErrNil || d.Safe("a") != 0 || d.List() != nil || d.Used() != 0 || d.Down() || d.Ops() != 0 || d.Fork() != nil {
		t.Error("a look of nil")
	}
}

// spoil changes bytes, and the room behind them.
func spoil(b []byte) {
	b = b[:cap(b)]
	for i := range b {
		b[i] ^= 255
	}
}

// Rules 3 and 4: arguments are not changed and not kept, answers are new memory.
func TestOwnMemory(t *testing.T) {
	d := New(1000)
	d.Create("a")
	d.Create("b")
	d.Mkdir("d")
	given := make([]byte, 3, 9)
	copy(given, "123")
	d.Append("a", given)
	if string(given) != "123" {
		t.Errorf("the argument is %q", given)
	}
	spoil(given)
	d.Append("b", []byte("45"))
	keep := []byte{1, 1}
	f := d.Fork()
	f.Crash(9, keep)
	if string(keep) != "\x01\x01" {
		t.Errorf("keep is %q", keep)
	}
	was := state(d)
	for range 2 {
		b, _ := d.Read("a")
		spoil(b)
		l := d.List()
		for _, x := range l {
			spoil(x.Data)
		}
		clear(l[:cap(l)])
		if now := state(d); now != was {
			t.Fatalf("%s, not %s", now, was)
		}
	}
	l := d.List()
	spoil(l[0].Data)
	if string(l[1].Data) != "45" {
		t.Errorf("two entries share: %q", l[1].Data)
	}
	_ = append(l[0].Data, "xyz"...)
	if string(l[1].Data) != "45" || state(d) != was {
		t.Error("two entries share room")
	}
}

// P14.5: forks go on by themselves, whoever is first, also with the bytes and the changes that stand where the other's would.
func TestFork(t *testing.T) {
	begin := []step{create("a"), lay("a", "1"), lay("a", "2"), lay("a", "3"), create("b"), lay("b", "4"), create("c"), remove("c"), syncDirs(),
		create("c"), lay("c", "56789"), rename("c", "b"), remove("a"), create("a"), lay("a", "z"), lay("a", "zz")}
	ways := [][]step{
		{lay("a", "x"), lay("b", "x")},
		{lay("a", "yy"), lay("b", "yy")},
		{cut("a", 1), lay("a", "x"), cut("b", 2), lay("b", "y")},
		{sync("a"), lay("a", "q"), sync("b"), lay("b", "qq")},
		{create("d"), create("e"), remove("a")},
		{remove("b"), mkdir("b"), create("b/x")},
		{rename("a", "b"), lay("b", "r")},
		{rename("b", "a"), lay("a", "s")},
		{syncDirs(), create("d"), lay("b", "u")},
		{crash(0, "\x01\x02\x03"), lay("a", "v"), lay("b", "v")},
		{crash(3, "\x03\x02\x01"), lay("b", "w")},
		{fails(0, true), remove("b")},
		{faults(0), remove("b")},
	}
	alone := func(w []step) string {
		d := made(t, 100, begin...)
		run(d, w...)
		return state(d)
	}
	for _, v := range ways {
		for _, w := range ways {
			d := made(t, 100, begin...)
			f, was := d.Fork(), state(d)
			if state(f) != was {
				t.Fatalf("a fork is %s, not %s", state(f), was)
			}
			run(d, v...)
			if state(f) != was {
				t.Fatalf("%+v: the fork is %s, not %s", v, state(f), was)
			}
			g := f.Fork()
			run(f, w...)
			run(g, v...)
			if a, b := alone(v), alone(w); state(d) != a || state(f) != b || state(g) != a {
				t.Fatalf("%+v, %+v: %s, %s, %s, not %s, %s", v, w, state(d), state(f), state(g), a, b)
			}
		}
	}
}

// P14.5: a fork has what is to go wrong, and whether the power has failed.
func TestForkTraps(t *testing.T) {
	d := New(10)
	d.Fault(0)
	d.Fail(1, true)
	f := d.Fork()
	for _, x := range []*Disk{d, f} {
		if got := run(x, create("a"), create("b"), create("c")); got != "12 11 11" {
			t.Error(got)
		}
		if g := x.Fork(); !g.Down() || g.Ops() != 2 || g.List() != nil {
			t.Error("a fork without power")
		}
		x.Crash(1, nil)
		if got := list(x); got != "b = " {
			t.Error(got)
		}
	}
}

// some is a step by chance, of few paths, so that much comes together; intn tells a number below another one.
func some(intn func(int) int) step {
	p, q := places[intn(len(places)-1)], places[1+intn(len(places)-2)]
	if intn(8) > 0 {
		p = places[1+intn(5)]
	}
	switch k := intn(40); {
	case k < 7:
		return create(p)
	case k < 15:
		return lay(p, "0123456789"[:intn(11)])
	case k < 18:
		return cut(p, intn(12)-1)
	case k < 21:
		return sync(p)
	case k < 23:
		return mkdir(p)
	case k < 26:
		return remove(p)
	case k < 33:
		return rename(p, q)
	case k < 35:
		return syncDirs()
	case k < 36:
		return fails(intn(8)-1, intn(2) == 0)
	case k < 37:
		return faults(intn(5) - 1)
	}
	keep := make([]byte, intn(4))
	for i := range keep {
		keep[i] = byte(intn(256))
	}
	return crash(intn(8)-2, string(keep))
}

// P14.1 to P14.5: runs by chance, with forks, held against plain disks.
func TestAgainstPlain(t *testing.T) {
	r := rand.New(rand.NewSource(14))
	for range 600 {
		capacity := r.Intn(60)
		disks, plains := []*Disk{New(capacity)}, []*plain{newPlain(capacity)}
		var log []string
		for range 120 {
			i := r.Intn(len(disks))
			if r.Intn(25) == 0 && len(disks) < 5 {
				log = append(log, fmt.Sprint("fork ", i))
				disks, plains = append(disks, disks[i].Fork()), append(plains, plains[i].fork())
			}
			s := some(r.Intn)
			if plains[i].down && r.Intn(3) == 0 {
				s = crash(r.Intn(8)-2, "\x01\x02\x03")
			}
			log = append(log, fmt.Sprintf("%d %+v", i, s))
			got, want := s.on(disks[i]), s.onPlain(plains[i])
			if got != want || tell(disks[i]) != plains[i].tell() {
				t.Fatalf("%s\n%d, not %d\n%s, not\n%s", strings.Join(log, "\n"), got, want, tell(disks[i]), plains[i].tell())
			}
		}
		for i := range disks {
			if tell(disks[i]) != plains[i].tell() {
				t.Fatalf("%s\nat the end, %d: %s, not\n%s", strings.Join(log, "\n"), i, tell(disks[i]), plains[i].tell())
			}
		}
	}
}

// P14.1 to P14.4: all runs of a few steps, and each crash behind them.
func TestAllShortRuns(t *testing.T) {
	steps := []step{create("a"), create("b"), mkdir("b"), lay("a", "12"), lay("b", "3"), cut("a", 1), sync("a"), remove("a"), remove("b"),
		rename("a", "b"), rename("b", "a"), rename("a", "a"), rename("a", "b/x"), syncDirs()}
	crashes := []step{crash(-1, "\x01"), crash(0, "\x02\x01"), crash(1, ""), crash(2, "\x01\x01"), crash(3, "\x05\x07"), crash(9, "\x01\x02")}
	var all func(d *Disk, p *plain, left int)
	all = func(d *Disk, p *plain, left int) {
		for _, s := range crashes {
			f, g := d.Fork(), p.fork()
			s.on(f)
			s.onPlain(g)
			if tell(f) != g.tell() {
				t.Fatalf("%+v: %s, not %s", s, tell(f), g.tell())
			}
		}
		if left == 0 {
			return
		}
		for _, s := range steps {
			f, g := d.Fork(), p.fork()
			got, want := s.on(f), s.onPlain(g)
			if got != want || tell(f) != g.tell() {
				t.Fatalf("%+v: %d, not %d: %s, not %s", s, got, want, tell(f), g.tell())
			}
			if got == api.OK {
				all(f, g, left-1)
			}
		}
	}
	for _, begin := range [][]step{nil, {create("a"), lay("a", "45"), create("b"), lay("b", "6"), sync("b"), syncDirs()}} {
		d, p := made(t, 8, begin...), newPlain(8)
		for _, s := range begin {
			s.onPlain(p)
		}
		all(d, p, 4)
	}
}

// P14.6: what was synced, its bytes and its name, is there behind each crash, as long as nothing is done with it.
func TestSyncedStays(t *testing.T) {
	r := rand.New(rand.NewSource(146))
	for range 2000 {
		d := New(60)
		for range r.Intn(12) {
			if s := some(r.Intn); s.call != "Fail" && s.call != "Fault" {
				s.on(d)
			}
		}
		for _, x := range d.List() {
			if !x.Dir {
				d.Sync(x.Path)
			}
		}
		d.SyncDirs()
		synced := d.List()
		touched := map[string]bool{}
		for range r.Intn(10) {
			if s := some(r.Intn); s.call != "Crash" && s.on(d) != api.ErrNone {
				touched[s.p], touched[s.q] = true, true
			}
		}
		keep := make([]byte, r.Intn(4))
		r.Read(keep)
		d.Crash(r.Intn(8)-1, keep)
		for _, x := range synced {
			if touched[x.Path] {
				continue
			}
			b, err := d.Read(x.Path)
			if x.Dir && err != api.ErrKind || !x.Dir && (err != api.OK || string(b) != string(x.Data)) {
				t.Fatalf("%s of %q: %q, %d", x.Path, x.Data, b, err)
			}
		}
	}
}

// P14.6: a file that takes another one's place, synced as a mirror does it, is the one or the other wherever the power fails, whole.
func TestOneOrTheOther(t *testing.T) {
	begin := []step{create("a"), lay("a", "old"), sync("a"), syncDirs()}
	steps := []step{create("t"), lay("t", "n"), lay("t", "ew"), sync("t"), rename("t", "a"), syncDirs(), create("t"), lay("t", "more")}
	for n := range len(steps) + 1 {
		for _, done := range []bool{false, true} {
			for names := range 4 {
				for keep := range 4 {
					d := made(t, 100, begin...)
					d.Fail(n, done)
					run(d, steps...)
					d.Crash(names, []byte{byte(keep), byte(keep)})
					b, err := d.Read("a")
					is := string(b) == "old" && (n < 5 || n == 5 && !done) || string(b) == "new" && (n > 4 || n == 4 && done)
					if err != api.OK || !is {
						t.Errorf("at %d, done %v, %d names: %q, %d", n, done, names, b, err)
					}
				}
			}
		}
	}

	d := made(t, 100, create("a"), lay("a", "old"), sync("a"), syncDirs(), create("t"), lay("t", "n"), sync("t"), lay("t", "ew"), rename("t", "a"))
	for keep, want := range []string{"n", "ne", "new"} { // whole as far as it was safe
		f := d.Fork()
		f.Crash(2, []byte{byte(keep)})
		if b, _ := f.Read("a"); string(b) != want {
			t.Errorf("%d: %q, not %q", keep, b, want)
		}
	}
}

// Rule 1: much that is laid bit by bit, and many names, take no long time.
func TestMuch(t *testing.T) {
	d := made(t, api.MaxDisk, create("a"), create("b"))
	piece := make([]byte, 1024)
	for i := range api.MaxDisk / len(piece) {
		p := []string{"a", "b"}[i%2]
		if d.Append(p, piece) != api.OK || d.Sync(p) != api.OK {
			t.Fatal(i)
		}
	}
	if d.Used() != api.MaxDisk || d.Append("a", []byte{1}) != api.ErrFull || d.Safe("b") != api.MaxDisk/2 {
		t.Errorf("used %d", d.Used())
	}
	d = New(0)
	for i := range 5000 {
		if err := d.Create(fmt.Sprint("f", i*7919%5000)); err != api.OK {
			t.Fatal(err)
		}
	}
	if l := d.List(); len(l) != 5000 || l[4999].Path != "f999" {
		t.Error(len(l))
	}
	d.Crash(2500, nil)
	if len(d.List()) != 2500 {
		t.Error(len(d.List()))
	}
}

// FuzzDisk plays any bytes as steps, with a fork now and then, and holds the disks against plain ones.
func FuzzDisk(f *testing.F) {
	f.Add([]byte{20})
	f.Add([]byte("\x30\x01\x01\x01\x01\x00\x01\x01\x01\x01\x08\x05\x02\x01\x01\x01\x1b"))
	f.Fuzz(func(t *testing.T, b []byte) {
		intn := func(n int) int {
			if len(b) == 0 {
				return 0
			}
			k := int(b[0]) % n
			b = b[1:]
			return k
		}
		capacity := intn(80)
		disks, plains := []*Disk{New(capacity)}, []*plain{newPlain(capacity)}
		for range 300 {
			if len(b) == 0 {
				break
			}
			if intn(20) == 1 && len(disks) < 4 {
				disks, plains = append(disks, disks[0].Fork()), append(plains, plains[0].fork())
			}
			i := intn(len(disks))
			s := some(intn)
			if got, want := s.on(disks[i]), s.onPlain(plains[i]); got != want {
				t.Fatalf("%d: %+v: %d, not %d", i, s, got, want)
			}
			for i := range disks {
				if tell(disks[i]) != plains[i].tell() {
					t.Fatalf("%d: %+v: %s, not %s", i, s, tell(disks[i]), plains[i].tell())
				}
			}
		}
	})
}
