package path

import (
	"slices"
	"strings"
	"testing"

	"sumpter/api"
)

// of makes a text of a byte, so many times.
func of(c string, n int) string {
	return strings.Repeat(c, n)
}

// deep makes a path of n names of one byte.
func deep(n int) string {
	return strings.TrimSuffix(of("a/", n), "/")
}

// wide makes a path of n bytes, in names of 31 with a shorter one behind.
func wide(n int) string {
	return of(of("x", 31)+"/", n/32) + of("y", n%32)
}

// plainSplit cuts byte by byte.
func plainSplit(p string) []string {
	if p == "" {
		return nil
	}
	list := []string{""}
	for i := range len(p) {
		if p[i] == '/' {
			list = append(list, "")
		} else {
			list[len(list)-1] += p[i : i+1]
		}
	}
	return list
}

// plainName is the chapter's word, byte by byte.
func plainName(s string) bool {
	for i := range len(s) {
		if s[i] == '/' || s[i] < 33 || s[i] > 126 {
			return false
		}
	}
	return len(s) >= 1 && len(s) <= 32 && s != "." && s != ".."
}

// plainCheck asks in the order of the promise.
func plainCheck(p string) api.Errno {
	list := plainSplit(p)
	bad := len(list) == 0
	for _, s := range list {
		bad = bad || !plainName(s)
	}
	switch {
	case len(p) > 128:
		return api.ErrLong
	case bad:
		return api.ErrName
	case len(list) > 8:
		return api.ErrLong
	}
	return api.OK
}

// plainLess compares the texts one by one, and each of them byte by byte.
func plainLess(a, b string) bool {
	x, y := plainSplit(a), plainSplit(b)
	for i := range min(len(x), len(y)) {
		if x[i] != y[i] {
			return plainAhead([]byte(x[i]), []byte(y[i]))
		}
	}
	return len(x) < len(y)
}

// plainAhead tells which of two texts that differ stands ahead.
func plainAhead(x, y []byte) bool {
	for i := range min(len(x), len(y)) {
		if x[i] != y[i] {
			return x[i] < y[i]
		}
	}
	return len(x) < len(y)
}

// samples are paths, and texts that are none.
func samples() []string {
	list := []string{
		"", "/", "//", "a", "a/", "/a", "a/b", "a//b", "a.b", "a-b", "a0", "a/b/c", "ab", "a/a/z", "b", "a~", "~", "a/~", "~/a", "a~/b", "a/b~",
		".", "..", "...", "./a", "../a", "a/.", "a/..", "a/./b", ".a", "..a", "a..", "a b", "a\tb", "\x00", "a\x7f", "\x80", "é", "a\xff", "!", "\\",
		".sumpter", ".sumpter-1", ".sumpter/a", ".sumpterx/b", "a/.sumpter", ".sumpte", "sumpter", ".Sumpter", "x.sumpter", ".sumpte/r", "/.sumpter",
		of("a", 31), of("a", 32), of("a", 33), of("a", 32) + "/b", of("a", 33) + "/b", "b/" + of("a", 31), "b/" + of("a", 32), of("/", 128), of("/", 129),
	}
	for n := range 12 {
		list = append(list, deep(n), deep(n)+"/", deep(n)+"b", "b/"+deep(n))
	}
	for n := 125; n < 133; n++ {
		list = append(list, wide(n), of("z", n), of("a/", n/2)+"b", wide(n-1)+" ")
	}
	return list
}

// checkAll holds every call upon one text, or two, against the promises' words.
func checkAll(t *testing.T, p, q string) {
	t.Helper()
	if got := Name(p); got != plainName(p) {
		t.Errorf("Name(%q) = %v", p, got)
	}
	if got := Check(p); got != plainCheck(p) {
		t.Errorf("Check(%q) = %v, want %v", p, got, plainCheck(p))
	}
	list := Split(p)
	if !slices.Equal(list, plainSplit(p)) {
		t.Errorf("Split(%q) = %q", p, list)
	}
	if got := Join(list); got != p {
		t.Errorf("Join(Split(%q)) = %q", p, got)
	}
	checkEnds(t, p, list)
	if got, want := Under(p, q), len(p) > 0 && (q == "" || len(p) > len(q) && p[:len(q)] == q && p[len(q)] == '/'); got != want {
		t.Errorf("Under(%q, %q) = %v", p, q, got)
	}
	if got := Less(p, q); got != plainLess(p, q) {
		t.Errorf("Less(%q, %q) = %v", p, q, got)
	}
	if got, want := Reserved(p), len(list) > 0 && len(list[0]) >= 8 && list[0][:8] == ".sumpter"; got != want {
		t.Errorf("Reserved(%q) = %v", p, got)
	}
	want := p + "~"
	if p == "" || p[len(p)-1] == '~' || plainCheck(want) != api.OK {
		want = ""
	}
	if got := Kept(p); got != want {
		t.Errorf("Kept(%q) = %q, want %q", p, got, want)
	}
}

// checkEnds holds Parent and Base against a path's texts.
func checkEnds(t *testing.T, p string, list []string) {
	t.Helper()
	parent, base := "", ""
	if n := len(list); n > 0 {
		parent, base = strings.Join(list[:n-1], "/"), list[n-1]
	}
	if got := Parent(p); got != parent {
		t.Errorf("Parent(%q) = %q, want %q", p, got, parent)
	}
	if got := Base(p); got != base {
		t.Errorf("Base(%q) = %q, want %q", p, got, base)
	}
}

func TestExample(t *testing.T) { // the chapter's example 1
	if Check("a/b") != api.OK || Check("a//b") != api.ErrName || Check("../a") != api.ErrName {
		t.Error("Check", Check("a/b"), Check("a//b"), Check("../a"))
	}
	if !Less("a/b", "a.b") || Less("a.b", "a/b") {
		t.Error("Less")
	}
	if Kept("a") != "a~" || Kept("a~") != "" {
		t.Error("Kept", Kept("a"), Kept("a~"))
	}
}

func TestName(t *testing.T) { // P7.1
	for s, want := range map[string]bool{
		"": false, ".": false, "..": false, "...": true, ".a": true, "a.": true, "..a": true, "a": true, "~": true, "!": true, "a/b": false, "/": false, "a/": false,
		"a b": false, " a": false, "a ": false, "a\n": false, "a\x00": false, "a\x7f": false, "\xc3\xa9": false, ".sumpter": true,
		of("a", 32): true, of("a", 33): false, of(".", 32): true, of("a", 31) + " ": false, of("a", 100000): false,
	} {
		if got := Name(s); got != want {
			t.Errorf("Name(%.40q) = %v", s, got)
		}
	}
	for c := range 256 {
		want := c >= 33 && c <= 126 && c != 47
		for _, s := range []string{string([]byte{byte(c), 'x'}), string([]byte{'x', byte(c)}), string([]byte{'x', byte(c), 'x'})} {
			if got := Name(s); got != want {
				t.Errorf("Name(%q) = %v", s, got)
			}
		}
	}
}

func TestCheck(t *testing.T) { // P7.1
	for p, want := range map[string]api.Errno{
		"a": api.OK, "a/b": api.OK, ".a/b~": api.OK, ".sumpter": api.OK, "a/.sumpter-t1": api.OK, deep(8): api.OK, of("a", 32): api.OK, wide(127): api.OK, wide(95) + "/" + of("z", 32): api.OK,
		"": api.ErrName, "/": api.ErrName, "a/": api.ErrName, "/a": api.ErrName, "a//b": api.ErrName, ".": api.ErrName, "a/..": api.ErrName, "a/./b": api.ErrName, "a b": api.ErrName, "a/\x7f": api.ErrName,
		of("a", 33): api.ErrName, "a/" + of("b", 33): api.ErrName, of("a", 128): api.ErrName, of("/", 128): api.ErrName, of("a", 64) + "/" + of("b", 63): api.ErrName,
		deep(9): api.ErrLong, deep(64): api.ErrLong,
		deep(8) + "/": api.ErrName, deep(9) + "/ ": api.ErrName, deep(9) + "//a": api.ErrName, "../" + deep(9): api.ErrName,
		of("a", 129): api.ErrLong, of("/", 129): api.ErrLong, of(" ", 129): api.ErrLong, deep(65): api.ErrLong, of("a", 200000): api.ErrLong, wide(128) + "z": api.ErrLong,
	} {
		if got := Check(p); got != want {
			t.Errorf("Check of %d bytes, %.40q: %v, want %v", len(p), p, got, want)
		}
	}
}

func TestLongest(t *testing.T) { // P7.1: a path of just 128 bytes, and of a byte more
	p := of("a", 32) + "/" + of("b", 32) + "/" + of("c", 31) + "/" + of("d", 30)
	if len(p) != 128 || Check(p) != api.OK || Check(p+"d") != api.ErrLong {
		t.Error(len(p), Check(p), Check(p+"d"))
	}
}

func TestSplit(t *testing.T) { // P7.2
	for p, want := range map[string][]string{
		"": nil, "a": {"a"}, "/": {"", ""}, "//": {"", "", ""}, "a/b": {"a", "b"}, "a//b": {"a", "", "b"}, "/a": {"", "a"}, "a/": {"a", ""}, "\x00/\xff": {"\x00", "\xff"}, deep(9): slices.Repeat([]string{"a"}, 9),
	} {
		if got := Split(p); !slices.Equal(got, want) {
			t.Errorf("Split(%q) = %q, want %q", p, got, want)
		}
	}
}

func TestJoin(t *testing.T) { // P7.2
	for _, c := range []struct {
		names []string
		want  string
	}{
		{nil, ""}, {[]string{}, ""}, {[]string{""}, ""}, {[]string{"a"}, "a"}, {[]string{"a", "b"}, "a/b"}, {[]string{"", ""}, "/"}, {[]string{"a", "", "b"}, "a//b"}, {[]string{"a/b", "c"}, "a/b/c"}, {[]string{"\xff", " "}, "\xff/ "},
	} {
		kept := slices.Clone(c.names)
		if got := Join(c.names); got != c.want || !slices.Equal(c.names, kept) {
			t.Errorf("Join(%q) = %q, want %q", kept, got, c.want)
		}
	}
}

func TestParentAndBase(t *testing.T) { // P7.2
	for p, want := range map[string][2]string{
		"": {"", ""}, "a": {"", "a"}, "a/b": {"a", "b"}, "a/b/c": {"a/b", "c"}, "/": {"", ""}, "/a": {"", "a"}, "a/": {"a", ""}, "a//": {"a/", ""}, "a//b": {"a/", "b"}, "//": {"/", ""}, ". ./\x00": {". .", "\x00"},
	} {
		if Parent(p) != want[0] || Base(p) != want[1] {
			t.Errorf("Parent(%q) = %q, Base %q, want %q", p, Parent(p), Base(p), want)
		}
	}
}

func TestUnder(t *testing.T) { // P7.3
	for _, c := range []struct {
		p, dir string
		want   bool
	}{
		{"a/b", "a", true}, {"a/b/c", "a", true}, {"a/b/c", "a/b", true}, {"ab", "a", false}, {"a", "a", false}, {"a", "a/b", false}, {"b/a", "a", false}, {"a.b", "a", false}, {"a/", "a", true}, {"a/b", "a/", false}, {"a//b", "a/", true},
		{"a", "", true}, {"/", "", true}, {"a/b", "", true}, {" ", "", true}, {"", "", false}, {"", "a", false}, {"/a", "", true}, {"/a", "/", false}, {"b/a/c", "a", false},
	} {
		if got := Under(c.p, c.dir); got != c.want {
			t.Errorf("Under(%q, %q) = %v", c.p, c.dir, got)
		}
	}
}

func TestLess(t *testing.T) { // P7.3: a list in which each stands ahead of all behind it
	list := []string{"", "/", "//", "/a", "\x00", "\x00/a", " ", "A", "a", "a/", "a//b", "a/A", "a/a", "a/a/z", "a/b", "a/b/c", "a/b.c", "a/\xff", "a ", "a!", "a-b", "a.b", "a.b/c", "a0", "aa", "ab", "b", "~", "\x80", "\xff", "\xff/\xff", "\xff\xff"}
	for i, a := range list {
		for j, b := range list {
			if got := Less(a, b); got != (i < j) {
				t.Errorf("Less(%q, %q) = %v", a, b, got)
			}
		}
	}
}

func TestDirectoryJustAhead(t *testing.T) { // P7.3: what is under a directory stands behind it, and nothing else between
	list := samples()
	slices.SortFunc(list, func(a, b string) int {
		switch {
		case Less(a, b):
			return -1
		case Less(b, a):
			return 1
		}
		return 0
	})
	for _, dir := range list {
		if dir == "" {
			continue
		}
		first := slices.Index(list, dir)
		rest := list[first:]
		for len(rest) > 0 && (rest[0] == dir || Under(rest[0], dir)) {
			rest = rest[1:]
		}
		for _, p := range slices.Concat(list[:first], rest) {
			if Under(p, dir) {
				t.Errorf("%q is under %q, and does not stand by it", p, dir)
			}
		}
	}
}

func TestReserved(t *testing.T) { // P7.4
	for p, want := range map[string]bool{
		".sumpter": true, ".sumpter-1": true, ".sumpter-new": true, ".sumpterx": true, ".sumpter~": true, ".sumpter/a": true, ".sumpter-t0/a/b": true, ".sumpter.sumpter": true,
		"": false, "a": false, ".": false, ".sumpte": false, "sumpter": false, ".Sumpter": false, ".SUMPTER": false, "a.sumpter": false, "a/.sumpter": false, ".a/.sumpter": false, "/.sumpter": false, ".sumpte/r": false, ". sumpter": false, "..sumpter": false,
	} {
		if got := Reserved(p); got != want {
			t.Errorf("Reserved(%q) = %v", p, got)
		}
	}
}

func TestKept(t *testing.T) { // P7.4
	longest := of("a", 32) + "/" + of("b", 32) + "/" + of("c", 32) + "/" + of("d", 28)
	for p, want := range map[string]string{
		"a": "a~", "a/b": "a/b~", "a~b": "a~b~", "~a": "~a~", "a~/b": "a~/b~", "...": "...~", ".sumpter": ".sumpter~", deep(8): deep(8) + "~",
		of("a", 31): of("a", 31) + "~", "b/" + of("a", 31): "b/" + of("a", 31) + "~", of("a", 32) + "/b": of("a", 32) + "/b~", longest: longest + "~",
		"": "", "~": "", "a~": "", "a~~": "", "a/b~": "", "a/~": "", of("a", 32): "", "b/" + of("a", 32): "", longest + "d": "", longest + "dd": "",
		"a//b": "", "../a": "", "/a": "", "a b": "", "a\x00": "", deep(9): "", of("a", 128): "", of("a", 1000): "",
	} {
		if got := Kept(p); got != want {
			t.Errorf("Kept(%q) = %q, want %q", p, got, want)
		}
	}
	if len(longest) != 127 {
		t.Error(len(longest))
	}
}

func TestSamples(t *testing.T) { // P7.1 to P7.4, against the plain words
	for _, p := range samples() {
		for _, q := range samples() {
			checkAll(t, p, q)
		}
	}
}

func TestNewMemory(t *testing.T) { // an answer's list is its own, with its spare room
	p := "a/b/c"
	first := Split(p)
	all := first[:cap(first)]
	for i := range all {
		all[i] = "spoilt"
	}
	if again := Split(p); !slices.Equal(again, []string{"a", "b", "c"}) || p != "a/b/c" {
		t.Errorf("%q", again)
	}
	names := append(make([]string, 0, 9), "a", "b")
	if Join(names) != "a/b" || !slices.Equal(names[:3], []string{"a", "b", ""}) {
		t.Errorf("%q", names[:3])
	}
}

func FuzzPath(f *testing.F) {
	for _, p := range samples() {
		f.Add(p, "a")
		f.Add("a/b/c", p)
	}
	f.Fuzz(func(t *testing.T, p, q string) {
		checkAll(t, p, q)
		checkAll(t, q+"/"+p, q)
		if Less(p, q) && Less(q, p) || p != q && !Less(p, q) && !Less(q, p) {
			t.Errorf("%q and %q stand in no order", p, q)
		}
	})
}
