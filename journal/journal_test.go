package journal

import (
	"fmt"
	"math"
	"math/rand"
	"slices"
	"strings"
	"testing"

	"sumpter/api"
	"sumpter/disk"
	"sumpter/record"
)

const room = 1 << 16

// sum is some sum.
func sum(first byte) api.Hash {
	return api.Hash{0: first, 31: 7}
}

func begin(id int, p string, size int) record.Rec {
	return record.Rec{Kind: record.Begin, ID: id, Path: p, Sum: sum(byte(id)), Size: size}
}
func mark(id, off int) record.Rec { return record.Rec{Kind: record.Mark, ID: id, Off: off} }
func done(id int) record.Rec      { return record.Rec{Kind: record.Done, ID: id} }
func drop(id int) record.Rec      { return record.Rec{Kind: record.Drop, ID: id} }
func skip(id int) record.Rec      { return record.Rec{Kind: record.Skip, ID: id} }

// put is the bytes of records.
func put(t testing.TB, l ...record.Rec) []byte {
	t.Helper()
	var b []byte
	for _, r := range l {
		laid, err := record.Put(r)
		if err != api.OK {
			t.Fatalf("%+v: %v", r, err)
		}
		b = append(b, laid...)
	}
	return b
}

// stateOf is the state that records make.
func stateOf(l ...record.Rec) record.State {
	s, _ := record.Play(l)
	return s
}

func show(s record.State) string { return fmt.Sprintf("%+v", s) }

// lookOf is all that the looks of a journal tell, as a text.
func lookOf(j *Journal) string {
	return fmt.Sprintf("%s size %d dead %v long %v", show(j.State()), j.Size(), j.Dead(), j.Long())
}

// listOf is what a disk lists, as a text, with how much of each file is safe.
func listOf(d *disk.Disk) string {
	var l []string
	for _, x := range d.List() {
		if x.Dir {
			l = append(l, x.Path+"/")
		} else {
			l = append(l, fmt.Sprintf("%s=%x(%d)", x.Path, x.Data, d.Safe(x.Path)))
		}
	}
	return strings.Join(l, " ")
}

// diskOf is all that a disk tells, and would tell behind crashes, as a text.
func diskOf(d *disk.Disk) string {
	var s strings.Builder
	fmt.Fprintf(&s, "down %v, ops %d: %s", d.Down(), d.Ops(), listOf(d))
	for names := range 5 {
		f := d.Fork()
		f.Crash(names, []byte{1, 2, 3})
		fmt.Fprintf(&s, "; %d: %s", names, listOf(f))
	}
	return s.String()
}

// filed is a disk with files of these bytes, all of them safe; a path with a / behind it is a directory.
func filed(t testing.TB, capacity int, files ...string) *disk.Disk {
	t.Helper()
	d := disk.New(capacity)
	must := func(err api.Errno) {
		t.Helper()
		if err != api.OK {
			t.Fatal(err)
		}
	}
	for i := 0; i+1 < len(files); i += 2 {
		if p, is := strings.CutSuffix(files[i], "/"); is {
			must(d.Mkdir(p))
			continue
		}
		must(d.Create(files[i]))
		must(d.Append(files[i], []byte(files[i+1])))
		must(d.Sync(files[i]))
	}
	must(d.SyncDirs())
	return d
}

// opened is a journal upon a disk, to which records were added.
func opened(t testing.TB, d *disk.Disk, l ...record.Rec) *Journal {
	t.Helper()
	j, err := Open(d)
	if err != api.OK {
		t.Fatal(err)
	}
	for _, r := range l {
		if err := j.Add(r); err != api.OK {
			t.Fatalf("%+v: %v", r, err)
		}
	}
	return j
}

// plain is a journal by the chapter's words, one behind the other: it keeps all records that were taken, and plays them whenever it is asked.
type plain struct {
	d    *disk.Disk
	recs []record.Rec
	size int
	dead bool
}

func (j *plain) state() record.State { return stateOf(j.recs...) }

func (j *plain) image(t testing.TB) []byte { return put(t, record.Image(j.state())...) }

func (j *plain) long(t testing.TB) bool {
	return j.size > 2048 && j.size > 2*len(j.image(t))
}

func (j *plain) look(t testing.TB) string {
	return fmt.Sprintf("%s size %d dead %v long %v", show(j.state()), j.size, j.dead, j.long(t))
}

func lists(d *disk.Disk, p string) bool {
	for _, x := range d.List() {
		if x.Path == p {
			return true
		}
	}
	return false
}

func plainOpen(t testing.TB, d *disk.Disk) (*plain, api.Errno) {
	if lists(d, ".sumpter-new") {
		if err := d.Remove(".sumpter-new"); err != api.OK {
			return nil, err
		}
	}
	if _, err := d.Read(".sumpter"); err == api.ErrNone {
		if err := d.Create(".sumpter"); err != api.OK {
			return nil, err
		}
	} else if err != api.OK {
		return nil, err
	}
	if err := d.SyncDirs(); err != api.OK {
		return nil, err
	}
	b, err := d.Read(".sumpter")
	if err != api.OK {
		return nil, err
	}
	l, _, _ := record.Scan(b)
	_, n := record.Play(l)
	j := &plain{d: d, recs: l[:n:n], size: len(put(t, l[:n]...))}
	if len(b) > j.size {
		if err := d.Cut(".sumpter", j.size); err != api.OK {
			return nil, err
		}
	}
	if err := d.Sync(".sumpter"); err != api.OK {
		return nil, err
	}
	return j, api.OK
}

func (j *plain) add(t testing.TB, r record.Rec) api.Errno {
	if j.dead {
		return api.ErrState
	}
	if err := record.Check(r); err != api.OK {
		return err
	}
	if _, is := record.Step(j.state(), r); !is {
		return api.ErrState
	}
	b := put(t, r)
	had, _ := j.d.Read(".sumpter")
	err := j.d.Append(".sumpter", b)
	if err == api.OK {
		err = j.d.Sync(".sumpter")
	}
	if err != api.OK {
		if j.d.Cut(".sumpter", len(had)) != api.OK {
			j.dead = true
		}
		return err
	}
	j.recs = append(j.recs[:len(j.recs):len(j.recs)], r)
	j.size += len(b)
	return api.OK
}

func (j *plain) compact(t testing.TB) api.Errno {
	if j.dead {
		return api.ErrState
	}
	b := j.image(t)
	err := api.OK
	if lists(j.d, ".sumpter-new") {
		err = j.d.Remove(".sumpter-new")
	}
	if err == api.OK {
		err = j.d.Create(".sumpter-new")
	}
	if err == api.OK {
		err = j.d.Append(".sumpter-new", b)
	}
	if err == api.OK {
		err = j.d.Sync(".sumpter-new")
	}
	if err == api.OK {
		err = j.d.Rename(".sumpter-new", ".sumpter")
	}
	if err != api.OK {
		j.d.Remove(".sumpter-new")
		return err
	}
	j.size = len(b)
	if err := j.d.SyncDirs(); err != api.OK {
		j.dead = true
		return err
	}
	return api.OK
}

func plainSweep(d *disk.Disk, s record.State) (int, api.Errno) {
	var gone []string
	for _, x := range d.List() {
		if x.Dir || len(x.Path) < 10 || x.Path[:10] != ".sumpter-t" {
			continue
		}
		held := false
		for _, y := range s.Parts {
			held = held || x.Path == fmt.Sprintf(".sumpter-t%d", y.ID)
		}
		if !held {
			gone = append(gone, x.Path)
		}
	}
	for _, p := range gone {
		if err := d.Remove(p); err != api.OK {
			return 0, err
		}
	}
	if len(gone) > 0 {
		if err := d.SyncDirs(); err != api.OK {
			return 0, err
		}
	}
	return len(gone), api.OK
}

// trapped sets one trap of a disk: 0 none, then at the call behind so many a fault, a power that fails, and one that fails with the call done.
func trapped(d *disk.Disk, kind, after int) {
	switch kind {
	case 1:
		d.Fault(after)
	case 2, 3:
		d.Fail(after, kind == 3)
	}
}

// The chapter's example; its words' names.
func TestExample(t *testing.T) {
	if Main != ".sumpter" || Fresh != ".sumpter-new" {
		t.Error(Main, Fresh)
	}
	d := disk.New(room)
	j, err := Open(d)
	if err != api.OK || d.Ops() != 3 || listOf(d) != ".sumpter=(0)" {
		t.Fatal(err, d.Ops(), listOf(d))
	}
	if err := j.Add(begin(0, "a", 9)); err != api.OK || d.Ops() != 5 {
		t.Error(err, d.Ops())
	}
	d.Crash(0, nil)
	j, err = Open(d)
	if want := stateOf(begin(0, "a", 9)); err != api.OK || !record.Same(j.State(), want) || len(want.Parts) != 1 {
		t.Error(err, show(j.State()))
	}
}

// P16.1: what Open makes of a disk, which calls it does, and what it has.
func TestOpen(t *testing.T) {
	a, b := begin(0, "a", 9), begin(1, "b", 5)
	two := string(put(t, a, b))
	spoilt := []byte(two + string(put(t, mark(0, 3))))
	spoilt[len(two)-1] ^= 1
	whole := func(l ...record.Rec) string {
		return fmt.Sprintf(".sumpter=%x(%d)", put(t, l...), len(put(t, l...)))
	}
	for _, c := range []struct {
		name  string
		files []string
		err   api.Errno
		ops   int
		list  string
		recs  []record.Rec
	}{
		{"nothing", nil, api.OK, 3, ".sumpter=(0)", nil},
		{"an empty journal", []string{Main, ""}, api.OK, 2, ".sumpter=(0)", nil},
		{"two records", []string{Main, two}, api.OK, 2, whole(a, b), []record.Rec{a, b}},
		{"a cut record", []string{Main, two[:len(two)-1]}, api.OK, 3, whole(a), []record.Rec{a}},
		{"a byte of one", []string{Main, two + "\x07"}, api.OK, 3, whole(a, b), []record.Rec{a, b}},
		{"junk", []string{Main, "junk"}, api.OK, 3, ".sumpter=(0)", nil},
		{"junk between", []string{Main, string(put(t, a)) + "\x00" + string(put(t, b))}, api.OK, 3, whole(a), []record.Rec{a}},
		{"a spoilt one, and one behind it", []string{Main, string(spoilt)}, api.OK, 3, whole(a), []record.Rec{a}},
		{"one that is refused, and one behind it", []string{Main, string(put(t, a, mark(7, 0), b))}, api.OK, 3, whole(a), []record.Rec{a}},
		{"the first is refused", []string{Main, string(put(t, done(0), a))}, api.OK, 3, ".sumpter=(0)", nil},
		{"one that is refused, and junk", []string{Main, string(put(t, a, a)) + "junk"}, api.OK, 3, whole(a), []record.Rec{a}},
		{"no part is left", []string{Main, string(put(t, a, mark(0, 9), done(0), skip(8)))}, api.OK, 2, whole(a, mark(0, 9), done(0), skip(8)), []record.Rec{a, done(0), skip(8)}},
		{"a new one", []string{Main, two, Fresh, "xy"}, api.OK, 3, whole(a, b), []record.Rec{a, b}},
		{"a new one alone", []string{Fresh, two}, api.OK, 4, ".sumpter=(0)", nil},
		{"a new one, and junk", []string{Main, two + "x", Fresh, ""}, api.OK, 4, whole(a, b), []record.Rec{a, b}},
		{"a new one that is a directory", []string{Main, two, Fresh + "/", ""}, api.OK, 3, whole(a, b), []record.Rec{a, b}},
		{"a new one that is a full directory", []string{Main, "x", Fresh + "/", "", Fresh + "/x", ""}, api.ErrFull, 0, ".sumpter=78(1) .sumpter-new/ .sumpter-new/x=(0)", nil},
		{"a directory", []string{Main + "/", ""}, api.ErrKind, 0, ".sumpter/", nil},
		{"a directory, and a new one", []string{Main + "/", "", Fresh, "x"}, api.ErrKind, 1, ".sumpter/", nil},
		{"other files", []string{"a", "1", ".sumpter-news", "2", ".sumpter-t0", "3"}, api.OK, 3, ".sumpter=(0) .sumpter-news=32(1) .sumpter-t0=33(1) a=31(1)", nil},
		{"one elsewhere", []string{"a/", "", "a/.sumpter", "1", "a/.sumpter-new", "2"}, api.OK, 3, ".sumpter=(0) a/ a/.sumpter=31(1) a/.sumpter-new=32(1)", nil},
	} {
		d := filed(t, room, c.files...)
		ops := d.Ops()
		j, err := Open(d)
		if err != c.err || d.Ops()-ops != c.ops || listOf(d) != c.list {
			t.Errorf("%s: %v, %d ops, %s, want %v, %d, %s", c.name, err, d.Ops()-ops, listOf(d), c.err, c.ops, c.list)
		}
		if (j == nil) != (c.err != api.OK) {
			t.Errorf("%s: a journal beside an error, or none: %v", c.name, err)
		}
		if j == nil {
			continue
		}
		main, _ := d.Read(Main)
		if want := stateOf(c.recs...); !record.Same(j.State(), want) || j.Size() != len(main) || j.Dead() {
			t.Errorf("%s: %s, want %s, %d bytes", c.name, lookOf(j), show(want), len(main))
		}
		f := d.Fork() // names and bytes are safe
		f.Crash(0, nil)
		if listOf(f) != listOf(d) {
			t.Errorf("%s: behind a crash %s, not %s", c.name, listOf(f), listOf(d))
		}
	}
}

// P16.1: no disk, no power.
func TestOpenWrong(t *testing.T) {
	if j, err := Open(nil); j != nil || err != api.ErrNil {
		t.Error(j, err)
	}
	d := filed(t, room, Main, "x", Fresh, "y")
	d.Fail(0, false)
	d.SyncDirs()
	ops := d.Ops()
	if j, err := Open(d); j != nil || err != api.ErrDown || d.Ops() != ops {
		t.Error(j, err)
	}
	if (&Journal{disk: disk.New(0)}).load() != api.ErrNone { // no Open comes so far without the file
		t.Error("a journal that is not there is loaded")
	}
}

// P16.1: loose bytes and names are there for sure behind Open, and count.
func TestOpenSyncs(t *testing.T) {
	d := disk.New(room)
	d.Create(Main)
	d.Append(Main, put(t, begin(0, "a", 9), mark(0, 4)))
	j := opened(t, d)
	d.Crash(0, nil)
	if b, err := d.Read(Main); err != api.OK || len(b) != j.Size() || j.State().Parts[0].Off != 4 {
		t.Error(len(b), err, lookOf(j))
	}
}

// P16.1: each call that goes wrong ends it, with its error; those ahead of it are done.
func TestOpenFails(t *testing.T) {
	two := string(put(t, begin(0, "a", 9), mark(0, 3)))
	for _, files := range [][]string{nil, {Main, two}, {Main, two + "junk"}, {Fresh, "x"}, {Main, two + "junk", Fresh, "x"}, {Fresh, "x", "a", "y"}} {
		d := filed(t, room, files...)
		f := d.Fork()
		ops := f.Ops()
		opened(t, f)
		n := f.Ops() - ops
		for kind := 1; kind <= 3; kind++ {
			for after := range n + 1 {
				f, g := d.Fork(), d.Fork()
				trapped(f, kind, after)
				trapped(g, kind, after)
				j, err := Open(f)
				_, want := plainOpen(t, g)
				if err != want || (err != api.OK) != (after < n) || (j == nil) != (after < n) || diskOf(f) != diskOf(g) {
					t.Errorf("%q, %d at %d: %v, want %v\n%s\n%s", files, kind, after, err, want, diskOf(f), diskOf(g))
				}
				if want := []api.Errno{1: api.ErrIO, 2: api.ErrDown, 3: api.ErrDown}[kind]; after < n && err != want {
					t.Errorf("%q, %d at %d: %v", files, kind, after, err)
				}
			}
		}
	}
}

// P16.2: what may be added; of several errors the first.
func TestAdd(t *testing.T) {
	d := disk.New(room)
	j := opened(t, d)
	var all []record.Rec
	for _, c := range []struct {
		r   record.Rec
		err api.Errno
	}{
		{mark(0, 0), api.ErrState},
		{begin(0, "a", 9), api.OK},
		{begin(0, "b", 9), api.ErrState},
		{begin(1, "a", 9), api.ErrState},
		{mark(0, 4), api.OK},
		{mark(0, 3), api.ErrState},
		{mark(0, 10), api.ErrState},
		{mark(0, api.MaxFile+1), api.ErrRange},
		{mark(0, -1), api.ErrRange},
		{record.Rec{Kind: 9}, api.ErrArg},
		{record.Rec{Kind: 5, ID: 7}, api.ErrArg},
		{begin(-1, "b", 0), api.ErrArg},
		{begin(api.MaxTime+1, "b", 0), api.ErrArg},
		{begin(0, "", 0), record.Check(begin(0, "", 0))},
		{begin(0, ".sumpter-x", 0), api.ErrName},
		{begin(0, "b", api.MaxFile+1), api.ErrRange},
		{record.Rec{Kind: record.Done, Path: "a"}, api.ErrForm},
		{begin(3, "d/e", api.MaxFile), api.OK},
		{skip(3), api.ErrState},
		{skip(4), api.OK},
		{drop(3), api.OK},
		{drop(3), api.ErrState},
		{done(0), api.OK},
		{done(0), api.ErrState},
		{begin(4, "a", 1), api.ErrState},
		{begin(api.MaxTime, "a", 1), api.OK},
		{skip(api.MaxTime), api.ErrState},
	} {
		before, size, ops := diskOf(d), j.Size(), d.Ops()
		err := j.Add(c.r)
		if err != c.err {
			t.Errorf("%+v: %v, want %v", c.r, err, c.err)
		}
		if err != api.OK {
			if diskOf(d) != before || j.Size() != size {
				t.Errorf("%+v: %v, and something has changed", c.r, err)
			}
		} else {
			all = append(all, c.r)
			if j.Size() != size+len(put(t, c.r)) || d.Ops() != ops+2 {
				t.Errorf("%+v: %d bytes behind %d, %d calls", c.r, j.Size(), size, d.Ops()-ops)
			}
		}
		b := put(t, all...)
		if want := fmt.Sprintf(".sumpter=%x(%d)", b, len(b)); listOf(d) != want || !record.Same(j.State(), stateOf(all...)) || j.Dead() {
			t.Errorf("%+v: %s, want %s; %s", c.r, listOf(d), want, lookOf(j))
		}
	}
}

// P16.2: 64 parts, and no more.
func TestAddFull(t *testing.T) {
	j := opened(t, disk.New(room))
	for i := range api.MaxEntries {
		if err := j.Add(begin(i, fmt.Sprint("f", i), i)); err != api.OK {
			t.Fatal(i, err)
		}
	}
	if err := j.Add(begin(64, "x", 0)); err != api.ErrState || len(j.State().Parts) != 64 {
		t.Error(err)
	}
	if j.Add(done(5)) != api.OK || j.Add(begin(64, "x", 0)) != api.OK {
		t.Error("no room again")
	}
}

// P16.2: an error of the disk: the state and the bytes are as they were; the journal is dead if Cut goes wrong, too.
func TestAddFails(t *testing.T) {
	for _, c := range []struct {
		name string
		set  func(d *disk.Disk)
		err  api.Errno
		dead bool
		ops  int
	}{
		{"Append, fault", func(d *disk.Disk) { d.Fault(0) }, api.ErrIO, false, 2},
		{"Sync, fault", func(d *disk.Disk) { d.Fault(1) }, api.ErrIO, false, 3},
		{"Append, power", func(d *disk.Disk) { d.Fail(0, false) }, api.ErrDown, true, 1},
		{"Append, power, done", func(d *disk.Disk) { d.Fail(0, true) }, api.ErrDown, true, 1},
		{"Sync, power", func(d *disk.Disk) { d.Fail(1, false) }, api.ErrDown, true, 2},
		{"Sync, power, done", func(d *disk.Disk) { d.Fail(1, true) }, api.ErrDown, true, 2},
		{"Append, fault, and Cut, power", func(d *disk.Disk) { d.Fault(0); d.Fail(1, false) }, api.ErrIO, true, 2},
		{"Append, fault, and Cut, power, done", func(d *disk.Disk) { d.Fault(0); d.Fail(1, true) }, api.ErrIO, true, 2},
		{"Sync, fault, and Cut, power", func(d *disk.Disk) { d.Fault(1); d.Fail(2, false) }, api.ErrIO, true, 3},
		{"no power", func(d *disk.Disk) { d.Fail(0, false); d.SyncDirs() }, api.ErrDown, true, 1},
		{"no room", func(d *disk.Disk) { d.Create("x"); d.Append("x", make([]byte, 150-d.Used()-5)) }, api.ErrFull, false, 3},
		{"no file", func(d *disk.Disk) { d.Remove(Main) }, api.ErrNone, true, 1},
		{"a directory", func(d *disk.Disk) { d.Remove(Main); d.Mkdir(Main) }, api.ErrKind, true, 2},
	} {
		d := disk.New(150)
		j := opened(t, d, begin(0, "a", 9), mark(0, 4))
		state, size := j.State(), j.Size()
		main, _ := d.Read(Main)
		ops := d.Ops()
		c.set(d)
		err := j.Add(mark(0, 9))
		if err != c.err || j.Dead() != c.dead || d.Ops()-ops != c.ops || !record.Same(j.State(), state) || j.Size() != size {
			t.Errorf("%s: %v, %d ops, %s, want %v, dead %v, %d", c.name, err, d.Ops()-ops, lookOf(j), c.err, c.dead, c.ops)
		}
		if !c.dead {
			if b, _ := d.Read(Main); string(b) != string(main) || d.Safe(Main) != size {
				t.Errorf("%s: %x, want %x", c.name, b, main)
			}
			d.Remove("x")
			if err := j.Add(mark(0, 9)); err != api.OK || j.State().Parts[0].Off != 9 {
				t.Errorf("%s: again: %v", c.name, err)
			}
			continue
		}
		d.Crash(9, nil) // the power does not make it alive
		before := diskOf(d)
		for _, r := range []record.Rec{mark(0, 9), mark(0, 3), {Kind: 9}, begin(1, "", 0)} {
			if err := j.Add(r); err != api.ErrState {
				t.Errorf("%s: %+v to a dead one: %v", c.name, r, err)
			}
		}
		if err := j.Compact(); err != api.ErrState || diskOf(d) != before || !record.Same(j.State(), state) || j.Size() != size || !j.Dead() {
			t.Errorf("%s: dead: %v, %s", c.name, err, lookOf(j))
		}
	}
}

// P16.2, P16.6: Cut leaves what the file had, be that what the journal's size is or not: here the power failed at the Rename of a Compact, which was done.
func TestAddBehindCompact(t *testing.T) {
	for fault := -1; fault < 2; fault++ {
		d := disk.New(room)
		j := opened(t, d, begin(0, "a", 9), mark(0, 1), mark(0, 2), mark(0, 3))
		size := j.Size()
		d.Fail(3, true)
		if err := j.Compact(); err != api.ErrDown || j.Dead() || j.Size() != size {
			t.Fatal(err, lookOf(j))
		}
		d.Crash(2, nil)
		if d.Safe(Main) != size-16 {
			t.Fatal(listOf(d))
		}
		if fault >= 0 {
			d.Fault(fault)
			if err := j.Add(begin(1, "a/path/that/is/long", 9)); err != api.ErrIO || j.Dead() || j.Size() != size || d.Safe(Main) != size-16 {
				t.Errorf("%d: %v, %s, %s", fault, err, lookOf(j), listOf(d))
			}
		}
		if err := j.Add(mark(0, 9)); err != api.OK || j.Size() != size+8 {
			t.Errorf("%d: %v, %s", fault, err, lookOf(j))
		}
		d.Crash(0, nil)
		if k := opened(t, d); !record.Same(k.State(), stateOf(begin(0, "a", 9), mark(0, 9))) {
			t.Errorf("%d: %s", fault, lookOf(k))
		}
	}
}

// P16.2, Rule 4: two journals of one disk: what the one wrote stays where the other one's record goes wrong.
func TestTwoOfOneDisk(t *testing.T) {
	for fault := range 2 {
		d := disk.New(room)
		j, k := opened(t, d), opened(t, d)
		if err := j.Add(begin(0, "a", 9)); err != api.OK || k.Size() != 0 || len(k.State().Parts) != 0 {
			t.Fatal(err, lookOf(k))
		}
		d.Fault(fault)
		if err := k.Add(begin(0, "b", 9)); err != api.ErrIO || k.Dead() || k.Size() != 0 || d.Safe(Main) != j.Size() {
			t.Errorf("%d: %v, %s, %s", fault, err, lookOf(k), listOf(d))
		}
	}
}

// P16.3: Compact leaves the image of the state, for sure, and no other file.
func TestCompact(t *testing.T) {
	for _, c := range []struct {
		name  string
		recs  []record.Rec
		image []record.Rec
	}{
		{"empty", nil, nil},
		{"a part", []record.Rec{begin(0, "a", 9)}, []record.Rec{begin(0, "a", 9)}},
		{"marks", []record.Rec{begin(0, "a", 9), mark(0, 0), mark(0, 3), mark(0, 3), mark(0, 8)}, []record.Rec{begin(0, "a", 9), mark(0, 8)}},
		{"one is gone", []record.Rec{begin(2, "a", 9), begin(3, "b", 4), done(2), mark(3, 1)}, []record.Rec{begin(3, "b", 4), mark(3, 1)}},
		{"the last is gone", []record.Rec{begin(2, "a", 9), begin(3, "b", 4), drop(3)}, []record.Rec{begin(2, "a", 9), skip(3)}},
		{"all are gone", []record.Rec{begin(2, "a", 9), drop(2)}, []record.Rec{skip(2)}},
		{"skipped", []record.Rec{skip(4), skip(9), skip(70000)}, []record.Rec{skip(70000)}},
		{"skipped by ones", []record.Rec{skip(0), skip(1)}, []record.Rec{skip(1)}},
	} {
		for _, fresh := range []string{"", "file", "dir"} {
			d := disk.New(room)
			j := opened(t, d, c.recs...)
			d.Create("x")
			ops := 5
			switch fresh {
			case "file":
				d.Create(Fresh)
				d.Append(Fresh, []byte("junk"))
				ops = 6
			case "dir":
				d.Mkdir(Fresh)
				ops = 6
			}
			before := d.Ops()
			err := j.Compact()
			b := put(t, c.image...)
			want := fmt.Sprintf(".sumpter=%x(%d) x=(0)", b, len(b))
			if err != api.OK || j.Size() != len(b) || !record.Same(j.State(), stateOf(c.recs...)) || j.Dead() || d.Ops()-before != ops {
				t.Errorf("%s: %v, %s, %d ops", c.name, err, lookOf(j), d.Ops()-before)
			}
			d.Crash(0, nil)
			if listOf(d) != want {
				t.Errorf("%s: %s, want %s", c.name, listOf(d), want)
			}
			if k := opened(t, d); lookOf(k) != lookOf(j) {
				t.Errorf("%s: opened again: %s, want %s", c.name, lookOf(k), lookOf(j))
			}
			if err := j.Add(begin(api.MaxTime, "z", 9)); err != api.OK {
				t.Errorf("%s: Add behind it: %v", c.name, err)
			}
			if k := opened(t, d); lookOf(k) != lookOf(j) {
				t.Errorf("%s: opened again behind Add: %s, want %s", c.name, lookOf(k), lookOf(j))
			}
		}
	}
}

// P16.3: each call of Compact that goes wrong: all is as it was, and no new journal is left while there is power; behind the Rename it has the image's bytes, and is dead.
func TestCompactFails(t *testing.T) {
	for _, fresh := range []bool{false, true} {
		d := disk.New(room)
		j := opened(t, d, begin(0, "a", 9), mark(0, 1), mark(0, 2))
		names := []string{"Create", "Append", "Sync", "Rename", "SyncDirs"}
		if fresh {
			d.Create(Fresh)
			names = slices.Insert(names, 0, "Remove")
		}
		image := put(t, begin(0, "a", 9), mark(0, 2))
		main, _ := d.Read(Main)
		for after, name := range names {
			for kind := 1; kind <= 3; kind++ {
				f := d.Fork()
				k := j.Fork(f)
				trapped(f, kind, after)
				err := k.Compact()
				if want := []api.Errno{1: api.ErrIO, 2: api.ErrDown, 3: api.ErrDown}[kind]; err != want {
					t.Errorf("%s, %d: %v, want %v", name, kind, err, want)
				}
				last := name == "SyncDirs"
				size, bytes := j.Size(), main
				if last {
					size, bytes = len(image), image
				}
				if k.Size() != size || k.Dead() != last || !record.Same(k.State(), j.State()) {
					t.Errorf("%s, %d: %s", name, kind, lookOf(k))
				}
				if kind == 1 {
					if want := fmt.Sprintf(".sumpter=%x(%d)", bytes, len(bytes)); listOf(f) != want {
						t.Errorf("%s: %s, want %s", name, listOf(f), want)
					}
				}
				if want := api.ErrState; last && (k.Add(mark(0, 9)) != want || k.Compact() != want) {
					t.Errorf("%s, %d: a dead one writes", name, kind)
				}
				f.Crash(9, nil)
				if l := opened(t, f); !record.Same(l.State(), j.State()) {
					t.Errorf("%s, %d: opened again: %s", name, kind, lookOf(l))
				}
			}
		}
	}
}

// P16.3: a new journal that cannot go, or for which there is no room, or no power.
func TestCompactWrong(t *testing.T) {
	l := []record.Rec{begin(0, "a", 9), mark(0, 1)}
	n := len(put(t, l...))

	d := disk.New(2*n - 1)
	j := opened(t, d, l...)
	before, ops := lookOf(j), d.Ops()
	if err := j.Compact(); err != api.ErrFull || lookOf(j) != before || d.Ops()-ops != 2 || lists(d, Fresh) {
		t.Errorf("no room: %v, %s, %s", err, lookOf(j), listOf(d))
	}
	d = disk.New(2 * n)
	if j := opened(t, d, l...); j.Compact() != api.OK || j.Compact() != api.OK {
		t.Error("just room enough")
	}

	d = disk.New(room)
	j = opened(t, d, l...)
	d.Mkdir(Fresh)
	d.Create(Fresh + "/x")
	before, was := lookOf(j), diskOf(d)
	if err := j.Compact(); err != api.ErrFull || lookOf(j) != before || diskOf(d) != was {
		t.Errorf("a full directory: %v, %s", err, lookOf(j))
	}
	d.Remove(Fresh + "/x")
	if err := j.Compact(); err != api.OK {
		t.Error(err)
	}

	d.Fail(0, false)
	d.SyncDirs()
	before = lookOf(j)
	if err := j.Compact(); err != api.ErrDown || lookOf(j) != before {
		t.Errorf("no power: %v, %s", err, lookOf(j))
	}
	d.Crash(0, nil)
	if err := j.Compact(); err != api.OK || lookOf(j) != before { // it was not dead
		t.Errorf("power again: %v, %s", err, lookOf(j))
	}

	d.Remove(Main)
	d.Mkdir(Main)
	if err := j.Compact(); err != api.ErrKind || lists(d, Fresh) || lookOf(j) != before {
		t.Errorf("a directory in its place: %v, %s", err, listOf(d))
	}
	d.Remove(Main)
	if err := j.Compact(); err != api.OK || lookOf(j) != before {
		t.Errorf("nothing in its place: %v, %s", err, lookOf(j))
	}
}

// P16.3: a fault at the Remove of an old new journal: it is tried once more.
func TestCompactRemovesAgain(t *testing.T) {
	d := disk.New(room)
	j := opened(t, d)
	d.Create(Fresh)
	ops := d.Ops()
	d.Fault(0)
	if err := j.Compact(); err != api.ErrIO || lists(d, Fresh) || d.Ops()-ops != 2 {
		t.Error(err, listOf(d), d.Ops()-ops)
	}
}

// long is records of just so many bytes, behind these, that leave their state.
func long(t testing.TB, n int, l ...record.Rec) []record.Rec {
	t.Helper()
	last := l[len(l)-1] // a Mark, of 8 bytes, whose Off may be said again
	for len(put(t, l...)) < n {
		l = append(l, last)
	}
	if len(put(t, l...)) != n {
		t.Fatalf("%d bytes, not %d", len(put(t, l...)), n)
	}
	return l
}

// P16.3: Long is asked at its edges: 2048 bytes, and twice the image's.
func TestLong(t *testing.T) {
	var big []record.Rec // an image of many bytes
	for i := range 24 {
		big = append(big, begin(i, fmt.Sprint("f", i), 9))
	}
	asked := map[string]bool{}
	ask := func(name string, edge int, l []record.Rec) {
		least := len(put(t, l...))
		for n := edge - 8; n <= edge+8; n++ {
			if (n-least)%8 != 0 {
				continue
			}
			asked[fmt.Sprint(name, n-edge)] = true
			if j := openedOf(t, long(t, n, l...)); j.Size() != n || j.Long() != (n > edge) {
				t.Errorf("%s: %d bytes, at the edge %d: %v", name, j.Size(), edge, j.Long())
			}
		}
	}
	for pad := range 8 { // all lengths, as paths of all lengths are ahead of records of 8 bytes
		p := strings.Repeat("p", 1+pad)
		ask("least", 2048, []record.Rec{begin(0, p, 9), mark(0, 9)})
		l := slices.Concat(big, []record.Rec{begin(30, p, 9), mark(30, 9)}) // these are their own image
		ask("twice", 2*len(put(t, l...)), l)
	}
	if len(asked) != 2*17 {
		t.Error(asked)
	}
}

// openedOf is a journal that was opened with these records.
func openedOf(t testing.TB, l []record.Rec) *Journal {
	t.Helper()
	return opened(t, filed(t, room, Main, string(put(t, l...))))
}

// P16.3: a long journal is short behind Compact, and long again in time; a dead one may be long, too.
func TestLongAgain(t *testing.T) {
	d := disk.New(room)
	j := opened(t, d, begin(0, "a", 9), mark(0, 5))
	for range 2 {
		n := 0
		for ; !j.Long(); n++ {
			if err := j.Add(mark(0, 5)); err != api.OK {
				t.Fatal(err)
			}
		}
		if j.Size() <= 2048 || j.Size() > 2048+8 || n < 200 {
			t.Error(j.Size(), n)
		}
		d.Fault(0)
		if j.Compact() != api.ErrIO || !j.Long() || j.Compact() != api.OK || j.Long() {
			t.Error(lookOf(j))
		}
	}
	for range 300 {
		j.Add(mark(0, 5))
	}
	d.Fail(0, false)
	j.Add(mark(0, 5))
	if !j.Dead() || !j.Long() {
		t.Error(lookOf(j))
	}
}

// P16.4: of nil zero values.
func TestNil(t *testing.T) {
	var j *Journal
	if err := j.Add(begin(0, "a", 0)); err != api.ErrNil {
		t.Error(err)
	}
	if err := j.Add(record.Rec{Kind: 9}); err != api.ErrNil {
		t.Error(err)
	}
	if err := j.Compact(); err != api.ErrNil {
		t.Error(err)
	}
	if j.Long() || j.Dead() || j.Size() != 0 || !record.Same(j.State(), record.State{}) {
		t.Error("nil tells something")
	}
	d := disk.New(room)
	if j.Fork(d) != nil || j.Fork(nil) != nil || opened(t, d).Fork(nil) != nil || d.Ops() != 3 {
		t.Error("a fork of nil, or upon nil")
	}
	if n, err := Sweep(nil, stateOf(begin(0, "a", 0))); n != 0 || err != api.ErrNil {
		t.Error(n, err)
	}
}

// P16.4: the temp of an ID.
func TestTemp(t *testing.T) {
	for id, want := range map[int]string{
		0: ".sumpter-t0", 7: ".sumpter-t7", 10: ".sumpter-t10", 123456: ".sumpter-t123456", api.MaxTime: ".sumpter-t1099511627776",
		-1: ".sumpter-t-1", math.MaxInt: ".sumpter-t9223372036854775807", math.MinInt: ".sumpter-t-9223372036854775808",
	} {
		if got := Temp(id); got != want {
			t.Errorf("%d: %s", id, got)
		}
	}
}

// P16.4: a fork and its journal go on by themselves, each upon its own disk.
func TestFork(t *testing.T) {
	d := disk.New(room)
	j := opened(t, d, begin(0, "a", 9), mark(0, 2), begin(1, "b", 9))
	f := d.Fork()
	k := j.Fork(f)
	if lookOf(k) != lookOf(j) {
		t.Error(lookOf(k), lookOf(j))
	}
	if j.Add(mark(0, 5)) != api.OK || k.Add(mark(0, 7)) != api.OK || k.Add(done(1)) != api.OK || j.Add(mark(1, 3)) != api.OK {
		t.Fatal("Add")
	}
	if want := stateOf(begin(0, "a", 9), mark(0, 5), begin(1, "b", 9), mark(1, 3)); !record.Same(j.State(), want) || !record.Same(opened(t, d).State(), want) {
		t.Error(lookOf(j))
	}
	if want := stateOf(begin(0, "a", 9), mark(0, 7), begin(1, "b", 9), done(1)); !record.Same(k.State(), want) || !record.Same(opened(t, f).State(), want) {
		t.Error(lookOf(k))
	}
	size := j.Size()
	if k.Compact() != api.OK || j.Size() != size || k.Size() >= size {
		t.Error(j.Size(), k.Size())
	}
	f.Fail(0, false)
	if k.Add(mark(0, 9)) != api.ErrDown || !k.Dead() || j.Dead() || j.Add(mark(0, 9)) != api.OK {
		t.Error("one journal is dead, and the other one, too")
	}
	if l := k.Fork(d); !l.Dead() || l.Add(mark(0, 9)) != api.ErrState { // as this one is, on whatever disk
		t.Error("the fork of a dead one is alive")
	}
	ops := d.Ops()
	j.Fork(d).Fork(d)
	if d.Ops() != ops {
		t.Error("a fork calls the disk")
	}
	if l := j.Fork(disk.New(room)); l.Add(mark(0, 9)) != api.ErrNone || !l.Dead() || j.Dead() {
		t.Error("a disk without a journal")
	}
}

// Rules 3 and 4: what State tells is new memory.
func TestOwnMemory(t *testing.T) {
	d := disk.New(room)
	j := opened(t, d, begin(0, "a", 9), begin(1, "b", 9), begin(2, "c", 9), done(1))
	k := j.Fork(d.Fork())
	want := lookOf(j)
	for _, x := range []*Journal{j, k} {
		for range 2 {
			s := x.State()
			for i := range s.Parts[:cap(s.Parts)] {
				s.Parts[:cap(s.Parts)][i] = record.Part{ID: 99, Path: "spoilt"}
			}
		}
	}
	if lookOf(j) != want || lookOf(k) != want {
		t.Error(lookOf(j), lookOf(k))
	}
	if j.Add(mark(2, 3)) != api.OK || lookOf(k) != want || j.Compact() != api.OK || !record.Same(opened(t, d).State(), j.State()) {
		t.Error(lookOf(j))
	}

	s := j.State()
	for _, x := range []string{Temp(0), Temp(5)} {
		d.Create(x)
	}
	before := show(s)
	if n, err := Sweep(d, s); n != 1 || err != api.OK || show(s) != before {
		t.Error(n, err, show(s))
	}
}

// P16.5: which files Sweep removes.
func TestSweep(t *testing.T) {
	parts := func(ids ...int) record.State {
		var s record.State
		for _, id := range ids {
			s.Parts = append(s.Parts, record.Part{ID: id})
		}
		return s
	}
	for _, c := range []struct {
		name  string
		files []string
		s     record.State
		n     int
		ops   int
		left  string
	}{
		{"nothing", nil, parts(), 0, 0, ""},
		{"no temps", []string{"a", "", Main, "", Fresh, "", ".sumpter-", "", ".sumpter-s1", "", ".sumpter-u1", "", ".sumpter_t1", ""}, parts(1), 0, 0,
			".sumpter=(0) .sumpter-=(0) .sumpter-new=(0) .sumpter-s1=(0) .sumpter-u1=(0) .sumpter_t1=(0) a=(0)"},
		{"one", []string{Temp(3), "abc"}, parts(), 1, 2, ""},
		{"a part's", []string{Temp(3), "abc"}, parts(3), 0, 0, ".sumpter-t3=616263(3)"},
		{"some", []string{Temp(0), "", Temp(1), "", Temp(10), "", Temp(11), "", Temp(2), "", "a", ""}, parts(1, 2, 5), 3, 4, ".sumpter-t1=(0) .sumpter-t2=(0) a=(0)"},
		{"digits are not all", []string{".sumpter-t", "", ".sumpter-tk", "", ".sumpter-t01", "", ".sumpter-t1x", "", ".sumpter-t-1", "", ".sumpter-t+1", "", ".sumpter-temp", ""}, parts(1, 0), 7, 8, ""},
		{"below 0", []string{".sumpter-t-1", ""}, parts(-1), 0, 0, ".sumpter-t-1=(0)"},
		{"a directory", []string{Temp(9) + "/", ""}, parts(), 0, 0, ".sumpter-t9/"},
		{"what is in one", []string{Temp(9) + "/", "", Temp(9) + "/x", "", Temp(9) + "/y/", ""}, parts(9), 1, 2, ".sumpter-t9/ .sumpter-t9/y/"},
		{"elsewhere", []string{"a/", "", "a/.sumpter-t9", "", "x.sumpter-t9", ""}, parts(), 0, 0, "a/ a/.sumpter-t9=(0) x.sumpter-t9=(0)"},
		{"parts that are not there", []string{"a", ""}, parts(1, 2, 3, math.MaxInt, math.MinInt), 0, 0, "a=(0)"},
		{"a part twice", []string{Temp(1), "", Temp(2), ""}, parts(1, 1), 1, 2, ".sumpter-t1=(0)"},
		{"Next is nothing to it", []string{Temp(1), ""}, record.State{Next: 2}, 1, 2, ""},
	} {
		d := filed(t, room, c.files...)
		f := d.Fork()
		ops := d.Ops()
		n, err := Sweep(d, c.s)
		if n != c.n || err != api.OK || d.Ops()-ops != c.ops || listOf(d) != c.left {
			t.Errorf("%s: %d, %v, %d ops, %s, want %d, %d, %s", c.name, n, err, d.Ops()-ops, listOf(d), c.n, c.ops, c.left)
		}
		d.Crash(0, nil)
		if listOf(d) != c.left {
			t.Errorf("%s: they come back: %s", c.name, listOf(d))
		}
		for kind := 1; kind <= 3; kind++ { // each call that goes wrong
			for after := range c.ops + 1 {
				f, g := f.Fork(), f.Fork()
				trapped(f, kind, after)
				trapped(g, kind, after)
				n, err := Sweep(f, c.s)
				wantN, want := plainSweep(g, c.s)
				if n != wantN || err != want || (err == api.OK) != (after == c.ops) || diskOf(f) != diskOf(g) {
					t.Errorf("%s: %d at %d: %d, %v, want %d, %v", c.name, kind, after, n, err, wantN, want)
				}
			}
		}
	}
}

// P16.5: without power there is nothing in the list.
func TestSweepDown(t *testing.T) {
	d := filed(t, room, Temp(1), "")
	d.Fail(0, false)
	d.SyncDirs()
	if n, err := Sweep(d, record.State{}); n != 0 || err != api.OK {
		t.Error(n, err)
	}
}

// P16.5, Rule 1: many files, and many parts.
func TestSweepMany(t *testing.T) {
	d := disk.New(room)
	var s record.State
	for i := range 4000 {
		d.Create(Temp(i))
		s.Parts = append(s.Parts, record.Part{ID: 2 * i})
	}
	for i := range 200000 {
		s.Parts = append(s.Parts, record.Part{ID: 10000 + i})
	}
	if n, err := Sweep(d, s); n != 2000 || err != api.OK || len(d.List()) != 2000 || lists(d, Temp(1)) || !lists(d, Temp(2)) {
		t.Error(n, err)
	}
}

// Rule 1: a journal as long as a disk may be is opened, and goes on.
func TestMuch(t *testing.T) {
	one := put(t, begin(0, "a", 9))
	m := put(t, mark(0, 0))
	b := slices.Concat(one, slices.Repeat(m, (api.MaxDisk-len(one))/len(m)))
	d := filed(t, api.MaxDisk, Main, string(b))
	j := opened(t, d)
	if j.Size() != len(b) || !j.Long() || j.Compact() != api.ErrFull || j.Add(mark(0, 9)) != api.ErrFull || j.Dead() {
		t.Error(j.Size(), len(b), j.Dead())
	}
	for range 10000 {
		j = j.Fork(d)
	}
	if len(j.State().Parts) != 1 {
		t.Error(lookOf(j))
	}
}

// some is a record by chance, of few IDs and paths; not all of them may be, or can follow.
func some(intn func(int) int, next int) record.Rec {
	id := intn(next+1) - intn(2)
	switch intn(8) {
	case 0, 1:
		return begin(next+intn(3)-intn(2), string(rune('a'+intn(4))), intn(6))
	case 2, 3, 4:
		return mark(id, intn(6))
	case 5:
		return done(id)
	case 6:
		return drop(id)
	}
	return record.Rec{Kind: record.Kind(4 + intn(2)), ID: next + intn(4) - 1}
}

// pair is a journal and a plain one, each upon a disk of its own, with which all is done that is done with the other's.
type pair struct {
	d, e *disk.Disk
	j    *Journal
	p    *plain
}

func (x *pair) both(f func(d *disk.Disk)) {
	f(x.d)
	f(x.e)
}

// act does something with both, and tells what, and what both answered.
func (x *pair) act(t testing.TB, intn func(int) int) (what, got, want string) {
	tell := func(n int, err api.Errno) string { return fmt.Sprint(n, " ", int(err)) }
	switch k := intn(20); {
	case k < 9:
		r := some(intn, x.p.state().Next)
		return fmt.Sprintf("Add %+v", r), tell(0, x.j.Add(r)), tell(0, x.p.add(t, r))
	case k < 12:
		return "Compact", tell(0, x.j.Compact()), tell(0, x.p.compact(t))
	case k < 14:
		kind, after := 1+intn(3), intn(8)
		x.both(func(d *disk.Disk) { trapped(d, kind, after) })
		return fmt.Sprint("trap ", kind, " at ", after), "", ""
	case k < 15:
		names, keep := intn(6)-1, []byte{byte(intn(60)), byte(intn(60)), byte(intn(60))}
		x.both(func(d *disk.Disk) { d.Crash(names, keep) })
		return x.open(t, fmt.Sprint("Crash ", names, keep, ", "))
	case k < 16:
		return x.open(t, "")
	case k < 17:
		x.d, x.e = x.d.Fork(), x.e.Fork()
		p := *x.p
		x.j, x.p = x.j.Fork(x.d), &p
		p.d = x.e
		return "Fork", "", ""
	case k < 18:
		name := []string{Fresh, Temp(0), Temp(1), Temp(2), Temp(3), "a"}[intn(6)]
		junk := make([]byte, intn(9))
		x.both(func(d *disk.Disk) { d.Create(name); d.Append(name, junk) })
		return "file " + name, "", ""
	case k < 19:
		names, keep := intn(6)-1, []byte{byte(intn(60)), byte(intn(60)), byte(intn(60))}
		x.both(func(d *disk.Disk) { d.Crash(names, keep) })
		return fmt.Sprint("Crash ", names, keep), "", ""
	}
	n, err := Sweep(x.d, x.j.State())
	m, wrong := plainSweep(x.e, x.p.state())
	return "Sweep", tell(n, err), tell(m, wrong)
}

// open opens both again; what can't be opened stays as it was.
func (x *pair) open(t testing.TB, what string) (string, string, string) {
	j, got := Open(x.d)
	p, want := plainOpen(t, x.e)
	if (j == nil) != (got != api.OK) {
		t.Fatalf("Open: %v, %v", j, got)
	}
	if got == api.OK && want == api.OK {
		x.j, x.p = j, p
	}
	return what + "Open", got.Error(), want.Error()
}

// pairs runs what is said by intn, and holds both against one another behind each step.
func pairs(t testing.TB, intn func(int) int, more func() bool) {
	capacity := []int{room, 40, 60, 100, 150, 250, 400}[intn(7)]
	x := &pair{d: disk.New(capacity), e: disk.New(capacity)}
	if _, got, want := x.open(t, ""); got != want {
		t.Fatal(got, want)
	}
	var log []string
	for more() {
		what, got, want := x.act(t, intn)
		log = append(log, what)
		if got != want || lookOf(x.j) != x.p.look(t) || diskOf(x.d) != diskOf(x.e) {
			t.Fatalf("%s\n%s, want %s\n%s\n%s\n%s\n%s", strings.Join(log, "\n"), got, want, lookOf(x.j), x.p.look(t), diskOf(x.d), diskOf(x.e))
		}
	}
}

// P16.1 to P16.5: runs by chance, with forks, crashes and calls that go wrong, held against a plain journal.
func TestAgainstPlain(t *testing.T) {
	r := rand.New(rand.NewSource(16))
	for range 800 {
		n := 0
		pairs(t, r.Intn, func() bool { n++; return n <= 60 })
	}
}

// script is what a test of P16.6 does: records, with Compact where there is nil.
type script []*record.Rec

func scriptOf(l ...any) script {
	var s script
	for _, x := range l {
		if r, is := x.(record.Rec); is {
			s = append(s, &r)
		} else {
			s = append(s, nil)
		}
	}
	return s
}

// play does a script, and goes on behind errors as long as there is power; it tells the states that may be found then: behind the last record whose Add told OK, and behind one that was under way when the power failed.
func (s script) play(t testing.TB, j *Journal, d *disk.Disk) []record.State {
	t.Helper()
	may := []record.State{j.State()}
	for _, r := range s {
		if d.Down() {
			return may
		}
		if r == nil {
			before := j.State()
			j.Compact()
			if !record.Same(j.State(), before) {
				t.Fatalf("Compact made %s of %s", show(j.State()), show(before))
			}
			continue
		}
		next, taken := record.Step(j.State(), *r)
		switch err := j.Add(*r); {
		case err == api.OK:
			may = []record.State{next}
		case taken && d.Down():
			may = append(may, next)
		}
	}
	return may
}

// P16.6: wherever the power fails, and whatever stays of what is loose: opened again, even if the power fails in that, too, the journal has a state that may be.
func TestPowerFails(t *testing.T) {
	compact := any(nil)
	for _, s := range []script{
		scriptOf(begin(0, "a", 9), mark(0, 3), begin(1, "b", 4), mark(0, 9), done(0)),
		scriptOf(begin(0, "a", 9), mark(0, 3), compact, mark(0, 5), drop(0), compact, begin(1, "a", 2)),
		scriptOf(compact, begin(5, "a", 9), compact, compact, mark(5, 1)),
		scriptOf(begin(0, "a", 9), done(0), compact, skip(7), mark(0, 9), begin(8, "c", 1)),
	} {
		for fault := -1; fault < 12; fault++ {
			start := disk.New(room)
			j := opened(t, start)
			if fault >= 0 {
				start.Fault(fault)
			}
			for after := 0; ; after++ {
				f := start.Fork()
				f.Fail(after, false)
				s.play(t, j.Fork(f), f)
				if !f.Down() { // the script is over ahead of it
					break
				}
				for _, done := range []bool{false, true} {
					f := start.Fork()
					f.Fail(after, done)
					may := s.play(t, j.Fork(f), f)
					crashes(t, f, fmt.Sprintf("fault %d, at %d, done %v", fault, after, done), may)
				}
			}
		}
	}
}

// crashes lets a disk crash in many ways and opens the journal again.
func crashes(t *testing.T, d *disk.Disk, what string, may []record.State) {
	t.Helper()
	for names := range 4 {
		for _, keep := range []string{"", "\x01\x01", "\x07\x07", "\x08\x08", "\x2a\x2a", "\x2b\x2b"} {
			f := d.Fork()
			f.Crash(names, []byte(keep))
			reopens(t, f, fmt.Sprintf("%s, %d names, keep %x", what, names, keep), may)
		}
	}
}

// reopens opens a journal, with each call of that going wrong, and once more then: the state that is found is one that may be, and stays.
func reopens(t *testing.T, d *disk.Disk, what string, may []record.State) {
	t.Helper()
	found := opened(t, d.Fork()).State()
	if !slices.ContainsFunc(may, func(s record.State) bool { return record.Same(s, found) }) {
		t.Fatalf("%s: %s, want one of %+v", what, show(found), may)
	}
	for after := range 5 {
		for kind := 1; kind <= 3; kind++ {
			f := d.Fork()
			trapped(f, kind, after)
			Open(f)
			f.Crash(after%3, []byte{3, 3})
			if j := opened(t, f); !record.Same(j.State(), found) {
				t.Fatalf("%s: opened again %s, not %s", what, show(j.State()), show(found))
			}
		}
	}
}

// P16.6: long runs by chance: adding, compacting, the power failing again and again; a journal that is not dead goes on now and then without being opened again.
func TestPowerFailsChance(t *testing.T) {
	r := rand.New(rand.NewSource(166))
	for range 2000 {
		d := disk.New([]int{room, 120, 300}[r.Intn(3)])
		may := []record.State{{}}
		var j *Journal
		for range 12 {
			if j == nil || j.Dead() || r.Intn(2) == 0 {
				j = reopened(t, d, may)
			}
			if j != nil {
				if r.Intn(4) > 0 {
					d.Fail(r.Intn(40), r.Intn(2) == 0)
				}
				if r.Intn(2) > 0 {
					d.Fault(r.Intn(20))
				}
				may = someScript(r, j.State().Next).play(t, j, d)
			}
			d.Crash(r.Intn(5)-1, []byte{byte(r.Intn(256)), byte(r.Intn(256))})
			if r.Intn(3) == 0 {
				d.Fail(r.Intn(5), r.Intn(2) == 0)
			}
		}
	}
}

// reopened is the journal of a disk, whose state must be one that may be; nil, if it can't be opened.
func reopened(t *testing.T, d *disk.Disk, may []record.State) *Journal {
	t.Helper()
	j, err := Open(d)
	if err == api.OK && !slices.ContainsFunc(may, func(s record.State) bool { return record.Same(s, j.State()) }) {
		t.Fatalf("%s, want one of %+v", show(j.State()), may)
	}
	return j
}

// someScript is a script by chance.
func someScript(r *rand.Rand, next int) script {
	var s script
	for range r.Intn(20) {
		if r.Intn(5) == 0 {
			s = append(s, nil)
			continue
		}
		x := some(r.Intn, next+r.Intn(6))
		s = append(s, &x)
	}
	return s
}

// FuzzJournal: P16.1 to P16.5, at any run.
func FuzzJournal(f *testing.F) {
	f.Add([]byte{0})
	f.Add([]byte("\x00\x00\x00\x00\x00\x00\x00\x00\x00\x05\x09\x00\x00\x00\x02\x00\x03\x0c\x00\x01\x0a\x0e\x01\x02\x03\x04"))
	f.Fuzz(func(t *testing.T, b []byte) {
		intn := func(n int) int {
			if len(b) == 0 {
				return 0
			}
			k := int(b[0]) % n
			b = b[1:]
			return k
		}
		steps := 0
		pairs(t, intn, func() bool { steps++; return steps < 100 && len(b) > 0 })
	})
}

// FuzzOpen: P16.1, P16.6, of any bytes: what Open finds is what it finds again, and records go on behind it.
func FuzzOpen(f *testing.F) {
	f.Add([]byte("junk"))
	f.Add(put(f, begin(0, "a", 9), mark(0, 4), done(0)))
	f.Add(append(put(f, begin(0, "a", 9)), 7, 1, 0))
	f.Fuzz(func(t *testing.T, b []byte) {
		d := filed(t, api.MaxDisk, Main, string(b[:min(len(b), room)]))
		e := d.Fork()
		j := opened(t, d)
		p, err := plainOpen(t, e)
		if err != api.OK || lookOf(j) != p.look(t) || diskOf(d) != diskOf(e) {
			t.Fatalf("%x: %s, want %s", b, lookOf(j), p.look(t))
		}
		if s := j.State(); s.Next <= api.MaxTime {
			if err := j.Add(skip(s.Next)); err != api.OK {
				t.Fatal(err)
			}
		}
		if k := opened(t, d); lookOf(k) != lookOf(j) {
			t.Fatalf("%x: opened again: %s, want %s", b, lookOf(k), lookOf(j))
		}
		if err := j.Compact(); err != api.OK {
			t.Fatal(err)
		}
		if k := opened(t, d); lookOf(k) != lookOf(j) {
			t.Fatalf("%x: opened again behind Compact: %s, want %s", b, lookOf(k), lookOf(j))
		}
	})
}
