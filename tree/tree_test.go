package tree

import (
	"bytes"
	"fmt"
	"math/rand"
	"reflect"
	"slices"
	"strings"
	"testing"

	"sumpter/api"
	"sumpter/path"
)

// file makes a file.
func file(p, data string) api.Entry {
	return api.Entry{Path: p, Data: []byte(data)}
}

// dir makes a directory.
func dir(p string) api.Entry {
	return api.Entry{Path: p, Dir: true}
}

// list makes a list.
func list(l ...api.Entry) []api.Entry {
	return l
}

// flat makes n files beside one another.
func flat(n int) []api.Entry {
	var l []api.Entry
	for i := range n {
		l = append(l, file(fmt.Sprintf("f%03d", i), fmt.Sprint(i)))
	}
	return l
}

// chain makes n directories, one in the other.
func chain(n int) []api.Entry {
	var l []api.Entry
	for i := range n {
		l = append(l, dir(strings.TrimSuffix(strings.Repeat("a/", i+1), "/")))
	}
	return l
}

// tell lays a list out as a text, with nil and empty Data alike.
func tell(l []api.Entry) string {
	var b strings.Builder
	for _, x := range l {
		if len(x.Data) > 40 {
			fmt.Fprintf(&b, "%q %v %d; ", x.Path, x.Dir, len(x.Data))
		} else {
			fmt.Fprintf(&b, "%q %v %q; ", x.Path, x.Dir, x.Data)
		}
	}
	return b.String()
}

// deep copies a list with its Data, keeping nil and empty ones apart, to hold the list against it later.
func deep(l []api.Entry) []api.Entry {
	c := slices.Clone(l)
	for i := range c {
		c[i].Data = bytes.Clone(c[i].Data)
	}
	return c
}

// spoil overwrites all of a list, with its spare room, and all Data, with theirs.
func spoil(l []api.Entry) {
	l = l[:cap(l)]
	for i := range l {
		spoilBytes(l[i].Data)
		l[i] = file("spoilt", "spoilt")
	}
}

// spoilBytes overwrites bytes and their spare room.
func spoilBytes(b []byte) {
	b = b[:cap(b)]
	for i := range b {
		b[i] ^= 0xa5
	}
}

// roomy copies a list so that it, and all Data, have spare room in which an append could write.
func roomy(l []api.Entry) []api.Entry {
	c := append(make([]api.Entry, 0, len(l)+9), l...)
	for i := range c {
		c[i].Data = append(make([]byte, 0, len(c[i].Data)+9), c[i].Data...)
	}
	return c
}

// plainCheck asks in the order of P8.1, each thing by itself.
func plainCheck(l []api.Entry) api.Errno {
	if len(l) > 64 {
		return api.ErrLong
	}
	for i, x := range l {
		if err := path.Check(x.Path); err != api.OK {
			return err
		}
		if strings.HasPrefix(x.Path, ".sumpter") {
			return api.ErrName
		}
		if len(x.Data) > 65536 {
			return api.ErrLong
		}
		if x.Dir && len(x.Data) != 0 {
			return api.ErrKind
		}
		if i > 0 && !path.Less(l[i-1].Path, x.Path) {
			return api.ErrThere
		}
		if parent := path.Parent(x.Path); parent != "" {
			dirs, files := 0, 0
			for _, y := range l[:i] {
				if y.Path == parent && y.Dir {
					dirs++
				} else if y.Path == parent {
					files++
				}
			}
			if dirs == 0 && files > 0 {
				return api.ErrKind
			}
			if dirs == 0 {
				return api.ErrNone
			}
		}
	}
	return api.OK
}

// plainPut puts by laying the entry behind all and sorting, P8.3.
func plainPut(l []api.Entry, x api.Entry) ([]api.Entry, api.Errno) {
	if err := plainCheck(l); err != api.OK {
		return nil, err
	}
	var made []api.Entry
	for _, y := range l {
		if y.Path == x.Path && y.Dir != x.Dir {
			return nil, api.ErrKind
		}
		if y.Path != x.Path {
			made = append(made, y)
		}
	}
	made = append(made, x)
	slices.SortStableFunc(made, func(a, b api.Entry) int {
		switch {
		case path.Less(a.Path, b.Path):
			return -1
		case path.Less(b.Path, a.Path):
			return 1
		}
		return 0
	})
	if err := plainCheck(made); err != api.OK {
		return nil, err
	}
	return made, api.OK
}

// plainRemove removes by keeping all else, P8.3.
func plainRemove(l []api.Entry, p string) ([]api.Entry, api.Errno) {
	if err := plainCheck(l); err != api.OK {
		return nil, err
	}
	var made []api.Entry
	for _, y := range l {
		if y.Path != p {
			made = append(made, y)
		}
	}
	if len(made) == len(l) {
		return nil, api.ErrNone
	}
	for _, y := range made {
		if strings.HasPrefix(y.Path, p+"/") {
			return nil, api.ErrFull
		}
	}
	return made, api.OK
}

// plainChildren is P8.2's word, by the last / of each path.
func plainChildren(l []api.Entry, p string) []string {
	var made []string
	for _, x := range l {
		if x.Path[:max(strings.LastIndex(x.Path, "/"), 0)] == p {
			made = append(made, x.Path)
		}
	}
	return made
}

// plainSame compares field by field.
func plainSame(a, b []api.Entry) bool {
	if len(a) != len(b) {
		return false
	}
	for i := range a {
		if a[i].Path != b[i].Path || a[i].Dir != b[i].Dir || string(a[i].Data) != string(b[i].Data) {
			return false
		}
	}
	return true
}

// samplePaths are paths, and texts that are none.
func samplePaths() []string {
	return []string{
		"", "a", "a/b", "a.b", "a/b/c", "b", "a/", "/a", "a//b", ".", "a b", ".sumpter", ".sumpter-1/x", "a/.sumpter", "~",
		strings.Repeat("a", 32), strings.Repeat("a", 33), strings.Repeat("/", 128), strings.Repeat("/", 129),
		chain(8)[7].Path, chain(9)[8].Path, "f000", "f063", "f064", "f0005", "q/r",
	}
}

// samples are trees, and lists that are none.
func samples() [][]api.Entry {
	big := strings.Repeat("x", 65536)
	small := list(dir("a"), file("a/b", "xy"), file("a.b", ""))
	return [][]api.Entry{
		nil, {}, small, flat(1), flat(63), flat(64), flat(65), flat(200), chain(1), chain(8), chain(9),
		list(dir("a")), list(file("a", "")), list(file("a", "x"), file("b", "y")), list(file("b", "x"), file("a", "y")),
		list(file("a", "x"), file("a", "x")), list(file("a", "x"), dir("a")), list(dir("a"), file("a", "x")), list(dir("a"), dir("a")),
		list(file("a/b", "x")), list(file("a", ""), file("a/b", "x")), list(dir("a"), dir("a/b"), file("a/b/c", "z"), dir("a/c"), dir("b")),
		list(dir("a"), file("a.b", ""), file("a/b", "")), list(dir("a"), file("a/b/c", "")), list(dir("a"), file("a/b", ""), file("a/b/c", "")),
		list(file("a", big)), list(file("a", big+"x")), list(file("a", big), file("b", big), file("c", big)),
		list(api.Entry{Path: "a", Dir: true, Data: []byte("x")}), list(api.Entry{Path: "a", Dir: true, Data: []byte{}}), list(api.Entry{Path: "a", Dir: true, Data: []byte(big + "x")}),
		list(file(".sumpter", "x")), list(file(".sumpter-1", "x"), file("a", "y")), list(dir(".sumpterx"), file(".sumpterx/a", "y"), file("b", "z")), list(file("", "x")),
		list(file("a", "x"), file(".sumpter", "y"), file("b", "z"), file(".sumpter", "w")), list(dir("a"), file("a/.sumpter", "x")),
		list(file("a//b", "")), list(file("a b", "")), list(file(strings.Repeat("a", 33), "")), list(file(strings.Repeat("/", 129), "")),
		append(flat(63), dir("z")), append(flat(62), dir("z"), file("z/a", "1")), append(flat(64), file("", "")), append(flat(3), file("", ""), file("f000", "")),
	}
}

// sampleEntries are entries of the paths that are asked for.
func sampleEntries() []api.Entry {
	var l []api.Entry
	for _, p := range samplePaths() {
		l = append(l, file(p, ""), file(p, "new"), dir(p), api.Entry{Path: p, Dir: true, Data: []byte("x")})
	}
	big := strings.Repeat("y", 65536)
	return append(l, file("a", big), file("a", big+"y"), file("c", big), file("c", big+"y"), api.Entry{Path: "c", Dir: true, Data: []byte(big + "y")})
}

// checkList holds the calls upon one list against the promises' words.
func checkList(t *testing.T, l []api.Entry) {
	t.Helper()
	if got, want := Check(l), plainCheck(l); got != want {
		t.Errorf("Check(%s) = %v, want %v", tell(l), got, want)
	}
	size := 0
	var seen []api.Entry
	for _, x := range l {
		size += len(x.Data)
		if !strings.HasPrefix(x.Path, ".sumpter") {
			seen = append(seen, x)
		}
	}
	if got := Size(l); got != size {
		t.Errorf("Size(%s) = %d, want %d", tell(l), got, size)
	}
	if got := Copy(l); !plainSame(got, l) {
		t.Errorf("Copy(%s) = %s", tell(l), tell(got))
	}
	if got := Visible(l); !plainSame(got, seen) {
		t.Errorf("Visible(%s) = %s, want %s", tell(l), tell(got), tell(seen))
	}
}

// checkPath holds the calls upon a list and a path against the promises' words.
func checkPath(t *testing.T, l []api.Entry, p string) {
	t.Helper()
	if got, want := Children(l, p), plainChildren(l, p); !slices.Equal(got, want) {
		t.Errorf("Children(%s, %q) = %q, want %q", tell(l), p, got, want)
	}
	got, ok := Get(l, p)
	at := slices.IndexFunc(l, func(x api.Entry) bool { return x.Path == p })
	if ok != (at >= 0) || at < 0 && !reflect.DeepEqual(got, api.Entry{}) || at >= 0 && !plainSame(list(got), l[at:at+1]) {
		t.Errorf("Get(%s, %q) = %s, %v", tell(l), p, tell(list(got)), ok)
	}
	less, err := Remove(l, p)
	want, wantErr := plainRemove(l, p)
	if err != wantErr || !plainSame(less, want) {
		t.Errorf("Remove(%s, %q) = %s, %v, want %s, %v", tell(l), p, tell(less), err, tell(want), wantErr)
	}
	if err == api.OK {
		checkKeepsElse(t, l, less, p)
	}
}

// checkPut holds Put against the promises' words, and what was put against what is got.
func checkPut(t *testing.T, l []api.Entry, x api.Entry) {
	t.Helper()
	more, err := Put(l, x)
	want, wantErr := plainPut(l, x)
	if err != wantErr || !plainSame(more, want) {
		t.Errorf("Put(%s, %s) = %s, %v, want %s, %v", tell(l), tell(list(x)), tell(more), err, tell(want), wantErr)
	}
	if err != api.OK {
		return
	}
	if got, ok := Get(more, x.Path); !ok || !plainSame(list(got), list(x)) {
		t.Errorf("Put(%s, %s), then got %s, %v", tell(l), tell(list(x)), tell(list(got)), ok)
	}
	checkKeepsElse(t, l, more, x.Path)
}

// checkKeepsElse holds P8.5: what was made of l is a tree, and all but p is as it was.
func checkKeepsElse(t *testing.T, l, made []api.Entry, p string) {
	t.Helper()
	if err := Check(made); err != api.OK {
		t.Errorf("%s with another %q = %s is no tree: %v", tell(l), p, tell(made), err)
	}
	without := func(l []api.Entry) []api.Entry {
		return slices.DeleteFunc(slices.Clone(l), func(x api.Entry) bool { return x.Path == p })
	}
	if !plainSame(without(l), without(made)) {
		t.Errorf("%s with another %q = %s", tell(l), p, tell(made))
	}
}

// P8.1 to P8.5, upon all samples.
func TestSamples(t *testing.T) {
	for _, l := range samples() {
		checkList(t, l)
		for _, p := range samplePaths() {
			checkPath(t, l, p)
		}
		for _, x := range sampleEntries() {
			checkPut(t, l, x)
		}
	}
}

// P8.1 to P8.5, upon all lists of up to three of some entries.
func TestAllSmall(t *testing.T) {
	some := []api.Entry{file("a", ""), dir("a"), file("a/b", "1"), dir("a/b"), file("a.b", "2"), file("a/b/c", "3"), file(".sumpter", "4"), file("a/", "5"), {Path: "b", Dir: true, Data: []byte("6")}}
	lists := [][]api.Entry{nil}
	for i := 0; i < len(lists); i++ {
		l := lists[i]
		checkList(t, l)
		for _, x := range some {
			checkPath(t, l, x.Path)
			checkPut(t, l, x)
			if len(l) < 3 {
				lists = append(lists, append(slices.Clone(l), x))
			}
		}
	}
	if len(lists) != 1+9+81+729 {
		t.Error(len(lists))
	}
}

// P8.1: each error, where no other one applies, and ahead of those that are named later.
func TestCheckErrors(t *testing.T) {
	big := strings.Repeat("x", 65537)
	long := strings.Repeat("a", 129)
	for _, c := range []struct {
		l    []api.Entry
		want api.Errno
	}{
		{nil, api.OK},
		{flat(64), api.OK},
		{flat(65), api.ErrLong},
		{append(list(file("", "")), flat(64)...), api.ErrLong},
		{append(list(file("", "")), flat(63)...), api.ErrName},
		{list(file(long, "")), api.ErrLong},
		{list(file("b", ""), file("a b", big)), api.ErrName},
		{list(chain(9)...), api.ErrLong},
		{list(chain(8)...), api.OK},
		{list(file(".sumpter", big)), api.ErrName},
		{list(file(".sumpter/"+long, "")), api.ErrLong},
		{list(file("a/.sumpter", "")), api.ErrNone},
		{list(file("a", big[1:])), api.OK},
		{list(file("a", big)), api.ErrLong},
		{list(api.Entry{Path: "a", Dir: true, Data: []byte(big)}), api.ErrLong},
		{list(api.Entry{Path: "a", Dir: true, Data: []byte{0}}), api.ErrKind},
		{list(file("b", ""), api.Entry{Path: "a", Dir: true, Data: []byte{0}}), api.ErrKind},
		{list(file("b", ""), file("a", "")), api.ErrThere},
		{list(file("b", ""), file("b", "")), api.ErrThere},
		{list(file("b", ""), dir("b")), api.ErrThere},
		{list(file("b", ""), file("a/c", "")), api.ErrThere},
		{list(dir("a"), file("a.b", ""), file("a/b", "")), api.ErrThere},
		{list(dir("a"), file("a/b", ""), file("a.b", "")), api.OK},
		{list(file("a/b", "")), api.ErrNone},
		{list(dir("a"), file("a/b/c", "")), api.ErrNone},
		{list(file("a/b", ""), file(long, "")), api.ErrNone},
		{list(file("a", ""), file("a/b", "")), api.ErrKind},
		{list(dir("a"), file("a/b", ""), file("a/b/c", "")), api.ErrKind},
		{list(dir("a"), dir("a/b"), file("a/b/c", "")), api.OK},
	} {
		if got := Check(c.l); got != c.want {
			t.Errorf("Check(%s) = %v, want %v", tell(c.l), got, c.want)
		}
	}
}

// P8.2: of lists that are no trees, too.
func TestLooks(t *testing.T) {
	l := list(file("b/c", "1"), file("a", "22"), file("b/a", "333"), dir("a"), file("b/c/d", ""), api.Entry{Path: "b", Dir: true, Data: []byte("xxxx")}, file("", "z"))
	if x, ok := Get(l, "a"); !ok || x.Dir || string(x.Data) != "22" {
		t.Error(x, ok)
	}
	if x, ok := Get(l, ""); !ok || string(x.Data) != "z" {
		t.Error(x, ok)
	}
	if x, ok := Get(l, "c"); ok || x.Path != "" || x.Dir || x.Data != nil {
		t.Error(x, ok)
	}
	if got := Children(l, "b"); !slices.Equal(got, []string{"b/c", "b/a"}) {
		t.Error(got)
	}
	if got := Children(l, ""); !slices.Equal(got, []string{"a", "a", "b", ""}) {
		t.Error(got)
	}
	if got := Children(l, "b/"); got != nil {
		t.Error(got)
	}
	if got := Size(l); got != 11 {
		t.Error(got)
	}
	if Size(nil) != 0 || Children(nil, "") != nil {
		t.Error("of nothing something is told")
	}
}

// P8.3: each error, ahead of those that are named later.
func TestPutRemoveErrors(t *testing.T) {
	tree := list(dir("a"), file("a/b", "1"), dir("c"), file("d", ""))
	none := list(file("d", ""), file("a/b", ""))
	for _, c := range []struct {
		l    []api.Entry
		x    api.Entry
		want api.Errno
	}{
		{none, dir("d"), api.ErrThere},
		{none, file("", ""), api.ErrThere},
		{flat(65), file("f000", ""), api.ErrLong},
		{tree, file("a", ""), api.ErrKind},
		{tree, file("c", ""), api.ErrKind},
		{tree, dir("d"), api.ErrKind},
		{tree, dir("a/b"), api.ErrKind},
		{tree, file("c", strings.Repeat("x", 65537)), api.ErrKind},
		{tree, file("d", strings.Repeat("x", 65537)), api.ErrLong},
		{tree, api.Entry{Path: "c", Dir: true, Data: []byte("x")}, api.ErrKind},
		{tree, file("d/e", ""), api.ErrKind},
		{tree, file("e/f", ""), api.ErrNone},
		{tree, file("a/c/d", ""), api.ErrNone},
		{tree, file(".sumpter-0", ""), api.ErrName},
		{tree, file("", ""), api.ErrName},
		{tree, file("a/", ""), api.ErrName},
		{tree, file(strings.Repeat("/", 1<<20), ""), api.ErrLong},
		{tree, file("c/d", ""), api.OK},
		{tree, dir("a"), api.OK},
		{flat(64), file("f000", "x"), api.OK},
		{flat(64), dir("f000"), api.ErrKind},
		{flat(64), file("g", "x"), api.ErrLong},
		{flat(64), file("", "x"), api.ErrLong},
		{flat(63), file("g", "x"), api.OK},
		{nil, file("g", "x"), api.OK},
	} {
		if _, got := Put(c.l, c.x); got != c.want {
			t.Errorf("Put(%s, %s) = %v, want %v", tell(c.l), tell(list(c.x)), got, c.want)
		}
	}
	for _, c := range []struct {
		l    []api.Entry
		p    string
		want api.Errno
	}{
		{none, "a/b", api.ErrThere},
		{flat(65), "f000", api.ErrLong},
		{tree, "", api.ErrNone},
		{tree, "b", api.ErrNone},
		{tree, "a/", api.ErrNone},
		{tree, "a", api.ErrFull},
		{tree, "a/b", api.OK},
		{tree, "c", api.OK},
		{tree, "d", api.OK},
		{chain(8), chain(8)[6].Path, api.ErrFull},
		{chain(8), chain(8)[7].Path, api.OK},
		{list(dir("a"), file("a.b", "")), "a", api.OK},
		{nil, "a", api.ErrNone},
	} {
		if _, got := Remove(c.l, c.p); got != c.want {
			t.Errorf("Remove(%s, %q) = %v, want %v", tell(c.l), c.p, got, c.want)
		}
	}
}

// P8.4: each list is the same as itself alone, and as one with nil in the place of empty Data.
func TestSame(t *testing.T) {
	all := samples()
	for _, a := range all {
		for _, b := range all {
			if got := Same(a, b); got != plainSame(a, b) {
				t.Errorf("Same(%s, %s) = %v", tell(a), tell(b), got)
			}
		}
	}
	a := list(dir("a"), file("a/b", "1"), file("c", ""))
	for _, c := range []struct {
		b    []api.Entry
		want bool
	}{
		{list(dir("a"), file("a/b", "1"), api.Entry{Path: "c"}), true},
		{list(api.Entry{Path: "a", Dir: true, Data: []byte{}}, file("a/b", "1"), file("c", "")), true},
		{list(dir("a"), file("a/b", "1")), false},
		{list(dir("a"), file("a/b", "1"), file("c", ""), file("d", "")), false},
		{list(dir("a"), file("a/b", "2"), file("c", "")), false},
		{list(dir("a"), file("a/b", "11"), file("c", "")), false},
		{list(dir("a"), file("a/c", "1"), file("c", "")), false},
		{list(dir("a"), file("a/b", "1"), dir("c")), false},
		{list(dir("a"), file("c", ""), file("a/b", "1")), false},
		{nil, false},
	} {
		if Same(a, c.b) != c.want || Same(c.b, a) != c.want {
			t.Errorf("Same(%s, %s) is not %v", tell(a), tell(c.b), c.want)
		}
	}
	if !Same(nil, []api.Entry{}) {
		t.Error("nothing is not the same as nothing")
	}
}

// P8.4: Visible goes by how a path begins alone.
func TestVisible(t *testing.T) {
	l := list(file(".sumpte", "1"), file(".sumpter", "2"), dir(".sumpter-3"), file(".sumpterx/y", "4"), file("a/.sumpter", "5"), file("", "6"), dir("b"))
	if got := Visible(l); tell(got) != tell(list(l[0], l[4], l[5], l[6])) {
		t.Error(tell(got))
	}
	if got := Visible(l[1:4]); len(got) != 0 {
		t.Error(tell(got))
	}
}

// P8.5: answers are memory of their own, and arguments are as they were.
func TestOwnMemory(t *testing.T) {
	for _, l := range samples() {
		l = roomy(l)
		was := deep(l[:cap(l)])
		x := roomy(list(file("a", "new")))[0]
		checkOwn := func(what string, answer []api.Entry) {
			t.Helper()
			spoil(answer)
			if !reflect.DeepEqual(l[:cap(l)], was) {
				t.Fatalf("%s of %s has changed it", what, tell(was[:len(l)]))
			}
			if string(x.Data[:cap(x.Data)]) != "new\x00\x00\x00\x00\x00\x00\x00\x00\x00" {
				t.Fatalf("%s of %s has changed the entry", what, tell(was[:len(l)]))
			}
		}
		checkOwn("Copy", Copy(l))
		checkOwn("Visible", Visible(l))
		more, _ := Put(l, x)
		checkOwn("Put", more)
		for _, y := range was[:len(l)] {
			less, _ := Remove(l, y.Path)
			checkOwn("Remove", less)
			got, _ := Get(l, y.Path)
			checkOwn("Get", list(got))
			more, _ := Put(l, y)
			checkOwn("Put", more)
			spoilStrings(Children(l, y.Path))
			checkOwn("Children", nil)
		}
		Check(l)
		Size(l)
		Same(l, l)
		checkOwn("a look", nil)
	}
}

// spoilStrings overwrites a list of texts and its spare room.
func spoilStrings(l []string) {
	l = l[:cap(l)]
	for i := range l {
		l[i] = "spoilt"
	}
}

// P8.5: no two Data of one answer share memory, even where those of the argument did.
func TestDataApart(t *testing.T) {
	shared := make([]byte, 4, 64)
	l := list(api.Entry{Path: "a", Data: shared}, api.Entry{Path: "b", Data: shared}, api.Entry{Path: "c", Data: shared[:2]})
	more, _ := Put(l, api.Entry{Path: "d", Data: shared})
	less, _ := Remove(more, "b")
	for _, answer := range [][]api.Entry{Copy(l), Visible(l), more, less} {
		if len(answer) < 3 {
			t.Fatal(tell(answer))
		}
		for i := range answer {
			b := answer[i].Data[:cap(answer[i].Data)]
			for j := range b {
				b[j] = byte(i + 1)
			}
		}
		for i, x := range answer {
			if bytes.Count(x.Data, []byte{byte(i + 1)}) != len(x.Data) {
				t.Error(i, x.Data)
			}
		}
	}
	if !bytes.Equal(shared[:64], make([]byte, 64)) {
		t.Error(shared[:64])
	}
}

// P8.3, P8.5: a tree that is put together in any order, and taken apart again, has at each time what was put.
func TestWalk(t *testing.T) {
	draw := rand.New(rand.NewSource(8))
	paths := []string{"a", "a/b", "a/b/c", "a.b", "a-", "b", "b/a", "b/b", "a/b/d", "a/c", "c", "d/e", ".sumpter", "a//b"}
	var l []api.Entry
	for i := range 4000 {
		p := paths[draw.Intn(len(paths))]
		if draw.Intn(5) < 2 {
			checkPath(t, l, p)
			if made, err := Remove(l, p); err == api.OK {
				l = made
			}
			continue
		}
		x := file(p, fmt.Sprint(i))
		if draw.Intn(2) == 0 {
			x = dir(p)
		}
		checkPut(t, l, x)
		if made, err := Put(l, x); err == api.OK {
			l = made
		}
	}
}

// The chapter's example.
func TestExample(t *testing.T) {
	if l, err := Put(nil, file("a/b", "x")); err != api.ErrNone || l != nil {
		t.Error(tell(l), err)
	}
	l, err := Put(list(dir("a")), file("a/b", "x"))
	if err != api.OK || tell(l) != tell(list(dir("a"), file("a/b", "x"))) {
		t.Error(tell(l), err)
	}
	if l, err := Remove(l, "a"); err != api.ErrFull || l != nil {
		t.Error(tell(l), err)
	}
}

// FuzzAll holds all calls upon any lists against the promises' words.
func FuzzAll(f *testing.F) {
	f.Add("a\x01\na/b\x00x\na.b\x00", "a/c", "y", false)
	f.Add("a\x00\na/b\x00x", "a", "", true)
	f.Add(".sumpter\x00\nb\x00x", ".sumpter", "", true)
	f.Fuzz(func(t *testing.T, lines, p, data string, isDir bool) {
		var l []api.Entry
		for line := range strings.SplitSeq(lines, "\n") {
			at := strings.IndexAny(line, "\x00\x01")
			if at >= 0 {
				l = append(l, api.Entry{Path: line[:at], Dir: line[at] == 1, Data: []byte(line[at+1:])})
			}
		}
		was := deep(l)
		checkList(t, l)
		checkPath(t, l, p)
		x := api.Entry{Path: p, Dir: isDir, Data: []byte(data)}
		checkPut(t, l, x)
		checkPut(t, Visible(l), x)
		if !reflect.DeepEqual(l, was) || string(x.Data) != data {
			t.Error("an argument was changed")
		}
	})
}
