package target_test

import (
	"strings"
	"testing"

	"headrace/api"
	"headrace/target"
)

func clean(t *testing.T, path, want string) {
	t.Helper()
	if s, e := target.Clean(path); s != want || e != api.OK {
		t.Errorf("Clean(%.60q): %.60q, %v; want %.60q", path, s, e, want)
	}
}

func cleanFails(t *testing.T, path string, want api.Errno) {
	t.Helper()
	if s, e := target.Clean(path); s != "" || e != want {
		t.Errorf("Clean(%.60q): %.60q, %v; want %v", path, s, e, want)
	}
}

// 6.4: segments . and .. are left out, with what .. goes back over; nothing else is.
func TestClean(t *testing.T) {
	for _, c := range [][2]string{
		{"/", "/"}, {"/a", "/a"}, {"/a/", "/a/"}, {"/a/b", "/a/b"},
		{"/a/./b/../c/..", "/a/"},
		// dots at the end
		{"/.", "/"}, {"/..", "/"}, {"/a/.", "/a/"}, {"/a/..", "/"}, {"/a/b/..", "/a/"}, {"/a/b/.", "/a/b/"}, {"/./.", "/"}, {"/../..", "/"},
		{"/a/../..", "/"}, {"/a/b/../..", "/"}, {"/a/./..", "/"}, {"/a/../.", "/"},
		// dots with something behind
		{"/./", "/"}, {"/../", "/"}, {"/./a", "/a"}, {"/../a", "/a"}, {"/a/./", "/a/"}, {"/a/../", "/"}, {"/a/../b", "/b"}, {"/a/b/../../c", "/c"},
		{"/../../a", "/a"}, {"/a/../../b", "/b"},
		// empty segments are kept, and gone back over, as others
		{"//", "//"}, {"///", "///"}, {"//a/", "//a/"}, {"/a//b", "/a//b"}, {"/a//..", "/a/"}, {"//..", "/"}, {"/a//../b", "/a/b"}, {"/.//a", "//a"},
		{"//../a", "/a"}, {"/a/..//b", "//b"}, {"//.", "//"}, {"///..", "//"},
		// no dots of these
		{"/...", "/..."}, {"/.a", "/.a"}, {"/a.", "/a."}, {"/..a", "/..a"}, {"/a..", "/a.."}, {"/. ", "/. "}, {"/%2e/%2E%2e", "/%2e/%2E%2e"},
		{"/....//", "/....//"},
		// any bytes
		{"/A?b/../c", "/c"}, {"/\x00\xff/./ ", "/\x00\xff/ "}, {"/a\\..\\b", "/a\\..\\b"}, {"/*", "/*"},
	} {
		clean(t, c[0], c[1])
	}
}

// 6.4: what does not begin with / is told ahead of what is too long.
func TestCleanWrong(t *testing.T) {
	for _, s := range []string{"", "a", "*", ".", "..", "./", "../a", " /", "\\", "http://a/", "?", strings.Repeat("a", api.MaxLine+1), strings.Repeat("./", api.MaxBytes/2)} {
		cleanFails(t, s, api.ErrArg)
	}
	most := "/" + strings.Repeat("a", api.MaxLine-1)
	clean(t, most, most)
	cleanFails(t, most+"a", api.ErrLong)
	cleanFails(t, strings.Repeat("/", api.MaxLine+1), api.ErrLong)
	cleanFails(t, strings.Repeat("/..", api.MaxBytes/3), api.ErrLong)
	slashes := strings.Repeat("/", api.MaxLine)
	clean(t, slashes, slashes)
	clean(t, strings.Repeat("/.", api.MaxLine/2), "/")
	clean(t, strings.Repeat("/a/..", api.MaxLine/5), "/")
}

// modelClean is how RFC 3986, section 5.2.4, takes dots out: by moving on in one text and back in another.
func modelClean(in string) string {
	out := ""
	for in != "" {
		switch {
		case strings.HasPrefix(in, "/./"):
			in = in[2:]
		case in == "/.":
			in = "/"
		case strings.HasPrefix(in, "/../"):
			in = in[3:]
			out = out[:max(0, strings.LastIndex(out, "/"))]
		case in == "/..":
			in = "/"
			out = out[:max(0, strings.LastIndex(out, "/"))]
		default:
			end := strings.Index(in[1:], "/") + 1
			if end == 0 {
				end = len(in)
			}
			out, in = out+in[:end], in[end:]
		}
	}
	return out
}

// texts are all texts of some bytes that are at most so long.
func texts(bytes string, most int) []string {
	all := []string{""}
	from := 0
	for range most {
		to := len(all)
		for _, s := range all[from:to] {
			for i := range len(bytes) {
				all = append(all, s+bytes[i:i+1])
			}
		}
		from = to
	}
	return all
}

// 6.4, 6.5: all short paths of what matters: without dots, and clean when they are cleaned.
func TestCleanModel(t *testing.T) {
	for _, s := range texts("/.a", 9) {
		path := "/" + s
		clean(t, path, modelClean(path))
		once, e := target.Clean(path)
		if e != api.OK {
			t.Fatalf("Clean(%q): %v", path, e)
		}
		clean(t, once, once)
		for _, segment := range strings.Split(once, "/") {
			if segment == "." || segment == ".." {
				t.Fatalf("Clean(%q): %q", path, once)
			}
		}
		if t.Failed() {
			return
		}
	}
}
