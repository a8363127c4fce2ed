package files

import (
	"fmt"
	"slices"
	"strings"
	"testing"

	"threadbare/api"
)

func want(t *testing.T, name string, got, want any) {
	t.Helper()
	if fmt.Sprint(got) != fmt.Sprint(want) {
		t.Errorf("%s: %.80v, not %.80v", name, got, want)
	}
}

func both(x any, e api.Errno) string { return fmt.Sprintf("%v %d", x, e) }

// 13.1
func TestPaths(t *testing.T) {
	long := strings.Repeat("x", 60)
	for _, c := range []struct {
		folder, path, want string
		e                  api.Errno
	}{
		{"/a/x", "../b//c/.", "/a/b/c", 0}, {"/", "..", "/", 0}, {"/a/./b/..", "c", "/a/c", 0}, {"/a", "/b/", "/b", 0}, {"/a", "", "/a", 0}, {"a", "/b", "", api.ErrInvalid}, {"", "/b", "", api.ErrInvalid}, {"/a", "x\x00", "", api.ErrInvalid}, {"/\x00", "x", "", api.ErrInvalid}, {"/", strings.Repeat("/", 1001), "", api.ErrInvalid}, {"/", strings.Repeat("/", 1000), "/", 0},
		{"/", long, "/" + long, 0}, {"/", long + "x", "", api.ErrLong}, {"/", long + "x/../a", "/a", 0}, {strings.Repeat("/"+long, 16), strings.Repeat("y", 23), strings.Repeat("/"+long, 16) + "/" + strings.Repeat("y", 23), 0}, {strings.Repeat("/"+long, 16), strings.Repeat("y", 24), "", api.ErrLong},
	} {
		want(t, "Normal", both(Normal(c.folder, c.path)), both(c.want, c.e))
	}
	for path, c := range map[string][4]string{"": {"", ".", "", ""}, "/": {"", "/", "", ""}, "a": {"a", ".", "a", ""}, "/a": {"a", "/", "a", ""}, "//a//b.c/": {"a|b.c", "/a", "b.c", ".c"}, "a/b/c": {"a|b|c", "a/b", "c", ""}, "../.": {"..|.", "..", ".", ""}, ".bashrc": {".bashrc", ".", ".bashrc", ""}, "x.y.z": {"x.y.z", ".", "x.y.z", ".z"}, "x.": {"x.", ".", "x.", "."}, "..x": {"..x", ".", "..x", ".x"}, "a\x00b": {"a\x00b", ".", "a\x00b", ""}} {
		want(t, "of "+path, strings.Join(Parts(path), "|")+" "+Parent(path)+" "+Name(path)+" "+Ending(path), strings.Join(c[:], " "))
	}
	for _, c := range []struct {
		from, to, want string
		e              api.Errno
	}{{"/a/b", "/a/c/d", "../c/d", 0}, {"/a", "/a/.", ".", 0}, {"/", "/a/b", "a/b", 0}, {"/a/b", "/", "../..", 0}, {"/a/../b", "/c", "../c", 0}, {"a", "/c", "", api.ErrInvalid}, {"/a", "c", "", api.ErrInvalid}, {"/", "/" + long + long, long + long, 0}} {
		want(t, "Relative", both(Relative(c.from, c.to)), both(c.want, c.e))
	}
}

func filled() *Store {
	s := NewStore()
	s.Make("/d/e")
	s.Put("/d/f", "hello")
	s.Put("/g", "xy")
	return s
}

const filledShow = "/d/\n/d/e/\n/d/f 5 11831194018420276491\n/g 2 644383116220033818\n"

// 13.2
func TestEntries(t *testing.T) {
	s := filled()
	long := "/" + strings.Repeat("x", 61)
	for _, c := range []struct {
		name      string
		got, want api.Errno
	}{
		{"Make", s.Make("/d/e"), 0}, {"Make", s.Make("/"), 0}, {"Make", s.Make("d"), api.ErrInvalid}, {"Make", s.Make("/g" + long), api.ErrLong}, {"Make", s.Make("/g/x"), api.ErrKind}, {"Make", s.Make("/g"), api.ErrKind},
		{"Put", s.Put("x", ""), api.ErrInvalid}, {"Put", s.Put("/no"+long, ""), api.ErrLong}, {"Put", s.Put("/no/g", ""), api.ErrNone}, {"Put", s.Put("/g/no/x", ""), api.ErrKind}, {"Put", s.Put("/d/no/../e", ""), api.ErrKind}, {"Put", s.Put("/", ""), api.ErrKind}, {"Put", s.Put("/d", strings.Repeat("x", 1000001)), api.ErrKind}, {"Put", s.Put("/big", strings.Repeat("x", 999994)), api.ErrLimit}, {"Put", s.Put("/g", strings.Repeat("x", 999996)), api.ErrLimit},
		{"Delete", s.Delete("x", true), api.ErrInvalid}, {"Delete", s.Delete("/no", true), api.ErrNone}, {"Delete", s.Delete("/g/x", true), api.ErrNone}, {"Delete", s.Delete("/d", false), api.ErrState}, {"Delete", s.Delete("/", true), api.ErrState},
	} {
		if c.got != c.want {
			t.Errorf("%s: %d, not %d", c.name, c.got, c.want)
		}
	}
	want(t, "Show", s.Show(), filledShow)
	want(t, "Get", both(s.Get("/d/../d/f")), "hello 0")
	for path, e := range map[string]api.Errno{"g": api.ErrInvalid, "/no": api.ErrNone, "/g/x": api.ErrNone, "/d": api.ErrKind, "/": api.ErrKind, long: api.ErrNone} {
		want(t, "Get "+path, both(s.Get(path)), both("", e))
	}
	for path, k := range map[string]string{"g": both(0, api.ErrInvalid), "/": "2 0", "/d/e": "2 0", "/g": "1 0", "/g/x": both(0, api.ErrNone)} {
		want(t, "Kind "+path, both(s.Kind(path)), k)
	}
	want(t, "Put", s.Put("/g", strings.Repeat("x", 999995)), api.OK)
	want(t, "Bytes", s.Bytes(), 1000000)
	want(t, "Delete", s.Delete("/g", false), api.OK)
	want(t, "Delete", s.Delete("/d", true), api.OK)
	want(t, "All", len(s.All()), 0)
	for i := range 199 {
		s.Put(fmt.Sprintf("/f%d", i), "")
	}
	want(t, "Make of two", s.Make("/d/e"), api.ErrLimit)
	want(t, "Make of one", s.Make("/d"), api.OK)
	want(t, "Put of one more", s.Put("/e", ""), api.ErrLimit)
	want(t, "Copy of one more", s.Copy("/f1", "/e"), api.ErrLimit)
	_, e := s.Open("/e", "w")
	want(t, "Open of one more", e, api.ErrLimit)
	want(t, "Put again", s.Put("/f1", "x"), api.OK)
}

// 13.3
func TestMoving(t *testing.T) {
	long := strings.Repeat("x", 61)
	for _, c := range []struct {
		from, to      string
		rename, copyE api.Errno
	}{
		{"g", "/x", api.ErrInvalid, api.ErrInvalid}, {"/no", "x", api.ErrInvalid, api.ErrInvalid}, {"/no", "/g/x", api.ErrNone, api.ErrNone}, {"/g/x", "/y", api.ErrNone, api.ErrNone}, {"/g", "/no/x", api.ErrNone, api.ErrNone}, {"/g", "/d/f/x", api.ErrKind, api.ErrKind}, {"/", "/", api.ErrState, api.ErrKind}, {"/", "/x", api.ErrState, api.ErrKind}, {"/d", "/d/e/x", api.ErrState, api.ErrKind}, {"/d", "/no/" + long, api.ErrNone, api.ErrKind}, {"/g", "/d", api.ErrState, api.ErrState}, {"/g", "/d/e", api.ErrState, api.ErrState}, {"/d/e", "/g", api.ErrState, api.ErrKind}, {"/d/e", "/d", api.ErrState, api.ErrKind}, {"/g", "/", api.ErrState, api.ErrState}, {"/g", "/" + long, api.ErrLong, api.ErrLong}, {"/g", "/g/", 0, 0}, {"/d", "/x/../d", 0, api.ErrKind}, {"/g", "/g/x", api.ErrKind, api.ErrKind},
	} {
		s := filled()
		want(t, "Rename "+c.from+" "+c.to, s.Rename(c.from, c.to), c.rename)
		if c.from != "/d" || c.to != "/x/../d" {
			want(t, "Copy "+c.from+" "+c.to, s.Copy(c.from, c.to), c.copyE)
		}
		want(t, "Show", s.Show(), filledShow)
	}
	s := filled()
	want(t, "Rename", s.Rename("/d", "/n"), api.OK)
	want(t, "Get", both(s.Get("/n/f")), "hello 0")
	want(t, "Rename onto a file", s.Rename("/n/f", "/g"), api.OK)
	want(t, "Get", both(s.Get("/g")), "hello 0")
	s.Make("/empty")
	want(t, "Rename onto a folder", s.Rename("/n", "/empty"), api.OK)
	want(t, "All", s.All(), "[/empty /empty/e /g]")
	want(t, "Copy", s.Copy("/g", "/empty/h"), api.OK)
	want(t, "Copy onto", s.Copy("/g", "/empty/h"), api.OK)
	want(t, "All", s.All(), "[/empty /empty/e /empty/h /g]")
	deep := NewStore()
	parts := strings.Repeat("/"+strings.Repeat("x", 60), 16)
	deep.Make(parts)
	deep.Make("/" + strings.Repeat("y", 30))
	want(t, "Rename to where a path is too long", deep.Rename("/"+strings.Repeat("x", 60), "/"+strings.Repeat("y", 30)+"/"+strings.Repeat("x", 60)), api.ErrLong)
	big := NewStore()
	big.Put("/a", strings.Repeat("x", 500001))
	want(t, "Copy beyond MaxBytes", big.Copy("/a", "/b"), api.ErrLimit)
}

// 13.4
func TestListing(t *testing.T) {
	s := filled()
	s.Put("/d.x", "1")
	want(t, "List", both(s.List("/", "*")), "[{d true 0} {d.x false 1} {g false 2}] 0")
	want(t, "List", both(s.List("/d", "[ef]")), "[{e true 0} {f false 5}] 0")
	want(t, "List", both(s.List("/d", "q")), "[] 0")
	want(t, "List", both(s.List("d", "*")), both([]int{}, api.ErrInvalid))
	want(t, "List", both(s.List("/g", "*")), both([]int{}, api.ErrKind))
	want(t, "List", both(s.List("/g/x", "*")), both([]int{}, api.ErrNone))
	for pattern, l := range map[string]string{"/*": "[/d /d.x /g]", "/*/*": "[/d/e /d/f]", "/d/[a-e]": "[/d/e]", "/": "[]", "/./d": "[]", "//d//": "[/d]", "/d*": "[/d /d.x]"} {
		want(t, "Glob "+pattern, both(s.Glob(pattern)), l+" 0")
	}
	want(t, "Glob", both(s.Glob("*")), both([]int{}, api.ErrInvalid))
	want(t, "All", s.All(), "[/d /d.x /d/e /d/f /g]")
	want(t, "Bytes", s.Bytes(), 8)
	var none *Store
	_, e := none.Get("/")
	for _, e := range []api.Errno{e, none.Make("/"), none.Put("/a", ""), none.Delete("/a", true), none.Rename("/a", "/b"), none.Copy("/a", "/b"), none.Write(1, ""), none.Flush(1), none.CloseFile(1)} {
		want(t, "a nil store", e, api.ErrInvalid)
	}
	none.Crash()
	want(t, "a nil store", fmt.Sprint(none.All(), none.Bytes(), none.Show(), none.Twin() == nil), "[] 0true")
}

func opened(t *testing.T, s *Store, path, mode string) int {
	t.Helper()
	h, e := s.Open(path, mode)
	want(t, "Open "+path+" "+mode, e, api.OK)
	return h
}

// 13.5
func TestHandles(t *testing.T) {
	s := filled()
	long := "/" + strings.Repeat("x", 61)
	for _, c := range []struct {
		path, mode string
		e          api.Errno
	}{{"g", "x", api.ErrInvalid}, {"/no", "x", api.ErrName}, {"/no", "r", api.ErrNone}, {"/no/x", "w", api.ErrNone}, {"/g/x/y", "w", api.ErrKind}, {"/g/x", "r", api.ErrKind}, {"/d", "r", api.ErrKind}, {"/", "w", api.ErrKind}, {"/", "r", api.ErrKind}, {long, "w", api.ErrLong}, {long, "r", api.ErrNone}} {
		h, e := s.Open(c.path, c.mode)
		want(t, "Open "+c.path, both(h, e), both(0, c.e))
	}
	h := opened(t, s, "/d/f", "r+")
	want(t, "the first handle", h, 1)
	want(t, "Write", s.Write(h, "J"), api.OK)
	want(t, "Tell", both(s.Tell(h)), "1 0")
	want(t, "Get", both(s.Get("/d/f")), "hello 0")
	want(t, "Flush", s.Flush(h), api.OK)
	want(t, "Get", both(s.Get("/d/f")), "Jello 0")
	want(t, "Read", both(s.Read(h, 2)), "el 0")
	want(t, "Read", both(s.Read(h, -1)), "lo 0")
	want(t, "Read", both(s.Read(h, 5)), " 0")
	want(t, "Seek", both(s.Seek(h, 3, "end")), "8 0")
	want(t, "Write", s.Write(h, "!"), api.OK)
	want(t, "Write", s.Write(h, ""), api.OK)
	want(t, "Seek", both(s.Seek(h, -9, "here")), "0 0")
	want(t, "Get", fmt.Sprintf("%q", both(s.Get("/d/f"))), "\"Jello\\x00\\x00\\x00! 0\"")
	for _, c := range []struct {
		h, n int
		from string
		e    api.Errno
	}{{9, 0, "x", api.ErrState}, {h, 0, "x", api.ErrName}, {h, -1, "start", api.ErrRange}, {h, 1000001, "start", api.ErrRange}, {h, 1 << 62, "end", api.ErrRange}, {h, -1 << 63, "here", api.ErrRange}, {h, -10, "end", api.ErrRange}} {
		want(t, "Seek", both(s.Seek(c.h, c.n, c.from)), both(0, c.e))
	}
	want(t, "Seek", both(s.Seek(h, 1000000, "start")), "1000000 0")
	want(t, "Write beyond", s.Write(h, "x"), api.ErrLimit)
	w := opened(t, s, "/g", "w")
	want(t, "opened to be made empty", both(s.Get("/g")), " 0")
	_, e := s.Read(w, 1)
	want(t, "Read of w", e, api.ErrState)
	r := opened(t, s, "/g", "r")
	want(t, "Write of r", s.Write(r, ""), api.ErrState)
	a := opened(t, s, "/new", "a+")
	want(t, "Kind", both(s.Kind("/new")), "1 0")
	s.Write(w, "abc")
	s.CloseFile(w)
	want(t, "Write of a handle that is gone", s.Write(w, ""), api.ErrState)
	want(t, "CloseFile again", s.CloseFile(w), api.ErrState)
	want(t, "Read", both(s.Read(r, 9)), "abc 0")
	s.Put("/new", "12")
	s.Write(a, "x")
	want(t, "Tell", both(s.Tell(a)), "3 0")
	s.Put("/new", "1234")
	s.Write(a, "y")
	want(t, "Tell", both(s.Tell(a)), "4 0")
	want(t, "Read", both(s.Read(a, 9)), " 0")
	want(t, "Tell", both(s.Tell(a)), "6 0")
	s.Seek(a, 1, "start")
	want(t, "Read", both(s.Read(a, 3)), "234 0")
	s.Write(a, "z")
	s.Flush(a)
	want(t, "Get", both(s.Get("/new")), "1234xyz 0")
	for _, e := range []api.Errno{s.Flush(99), second(s.Read(99, 1)), second(s.Tell(99))} {
		want(t, "no handle", e, api.ErrState)
	}
}

func second[T any](_ T, e api.Errno) api.Errno { return e }

// 13.5
func TestLimits(t *testing.T) {
	s := NewStore()
	s.Put("/a", strings.Repeat("x", 600000))
	b := opened(t, s, "/b", "w+")
	s.Write(b, strings.Repeat("y", 400001))
	want(t, "Flush", s.Flush(b), api.ErrLimit)
	want(t, "Flush again", s.Flush(b), api.OK)
	want(t, "Bytes", s.Bytes(), 600000)
	s.Seek(b, 0, "start")
	s.Write(b, strings.Repeat("y", 400001))
	want(t, "Read", both(s.Read(b, 1)), both("", api.ErrLimit))
	s.Seek(b, 0, "start")
	s.Write(b, strings.Repeat("y", 400001))
	want(t, "Seek", both(s.Seek(b, 0, "start")), both(0, api.ErrLimit))
	s.Seek(b, 0, "start")
	s.Write(b, strings.Repeat("y", 400001))
	s.Delete("/b", false)
	want(t, "CloseFile of a file that is gone", s.CloseFile(b), api.OK)
	c := opened(t, s, "/c", "a")
	s.Write(c, strings.Repeat("y", 600000))
	want(t, "Write of more than MaxBytes", s.Write(c, strings.Repeat("y", 400001)), api.ErrLimit)
	want(t, "CloseFile", s.CloseFile(c), api.ErrLimit)
	for range 50 {
		opened(t, s, "/a", "r")
	}
	_, e := s.Open("/a", "w")
	want(t, "Open of many", e, api.ErrLimit)
	want(t, "Bytes", s.Bytes(), 600000)
	s.Crash()
	h := opened(t, s, "/a", "r+")
	if h < 52 {
		t.Error("a handle is used twice")
	}
	s.Rename("/a", "/z")
	s.Write(h, "moved")
	s.Flush(h)
	if got, _ := s.Get("/z"); got[:6] != "movedx" {
		t.Error("a file that was renamed is the same one")
	}
	s.Put("/q", "q")
	s.Copy("/q", "/z")
	s.Write(h, "late")
	want(t, "Flush", s.Flush(h), api.OK)
	want(t, "Get", both(s.Get("/z")), "q 0")
	s.Seek(h, 0, "start")
	want(t, "Read", both(s.Read(h, 9)), "movedlate 0")
}

// 13.6
func TestTwins(t *testing.T) {
	s := filled()
	h := opened(t, s, "/g", "a")
	s.Write(h, "lost")
	twin := s.Twin()
	want(t, "Show of twins", twin.Show(), s.Show())
	want(t, "a twin's handles", second(twin.Tell(h)), api.ErrState)
	want(t, "a twin's first handle", opened(t, twin, "/g", "r"), 1)
	s.Crash()
	want(t, "Flush", s.Flush(h), api.ErrState)
	want(t, "Get", both(s.Get("/g")), "xy 0")
	twin.Put("/g", "other")
	want(t, "Get", both(s.Get("/g")), "xy 0")
	if strings.Contains(s.Show(), twin.Show()) {
		t.Error("Show tells files apart")
	}
	l := s.All()
	if !slices.IsSorted(l) {
		t.Error("All")
	}
}
