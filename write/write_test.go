package write_test

import (
	"math/rand"
	"slices"
	"strings"
	"testing"
	"unsafe"

	"headrace/api"
	"headrace/fields"
	"headrace/head"
)

const by = "headrace"

// list are fields by their names and values.
func list(parts ...string) []api.Field {
	var l []api.Field
	for i := 0; i+1 < len(parts); i += 2 {
		l = append(l, api.Field{Name: parts[i], Value: parts[i+1]})
	}
	return l
}

// lines is a head's text of its first line and its fields' lines.
func lines(l ...string) string { return strings.Join(l, "\r\n") + "\r\n\r\n" }

// fieldLines are fields as they stand in a head's text.
func fieldLines(l []api.Field) []string {
	var all []string
	for _, f := range l {
		all = append(all, f.Name+": "+f.Value)
	}
	return all
}

// many are n fields.
func many(n int) []api.Field {
	return slices.Repeat(list("X-Many", "1"), n)
}

// readAgain is the head that a text is, without a byte behind it.
func readAgain(t *testing.T, request bool, text string) api.Head {
	t.Helper()
	h, n, e := head.Parse(request, []byte(text))
	if e != api.OK || n != len(text) {
		t.Fatalf("%.300q is read as %d bytes, %v", text, n, e)
	}
	return h
}

// nothingStripped tells that of fields that go on or back nothing is stripped but Transfer-Encoding and Connection.
func nothingStripped(t *testing.T, l []api.Field) {
	t.Helper()
	want := fields.Drop(fields.Drop(l, "transfer-encoding"), "connection")
	if got := fields.Strip(l); !slices.Equal(got, want) {
		t.Errorf("of %q is left %q; want %q", l, got, want)
	}
}

// model parts are written without the project's other layers: names are held against each other by their small letters, lists have no quotes.

func modelItems(l []api.Field, name string) []string {
	var items []string
	for _, f := range l {
		if !strings.EqualFold(f.Name, name) {
			continue
		}
		for _, item := range strings.Split(f.Value, ",") {
			if item = strings.ToLower(strings.Trim(item, "\t ")); item != "" {
				items = append(items, item)
			}
		}
	}
	return items
}

// modelWithout are the fields of other names.
func modelWithout(l []api.Field, names ...string) []api.Field {
	return slices.DeleteFunc(slices.Clone(l), func(f api.Field) bool {
		return slices.ContainsFunc(names, func(name string) bool { return strings.EqualFold(name, f.Name) })
	})
}

// modelStrip are fields without those of one connection; what is needed is left, though connection names it.
func modelStrip(l []api.Field, needed string) []api.Field {
	names := slices.DeleteFunc(modelItems(l, "connection"), func(item string) bool { return item == needed })
	return modelWithout(l, append(names, "connection", "keep-alive", "proxy-connection", "te", "transfer-encoding", "upgrade")...)
}

// drawnFields are fields that are drawn, of names and values that mean something here.
func drawnFields(r *rand.Rand) []api.Field {
	names := []string{"Host", "Connection", "Connection", "Keep-Alive", "Proxy-Connection", "TE", "Transfer-Encoding", "Upgrade", "Content-Length", "Content-Length", "Expect", "Trailer", "X-A", "X-B", "Via", "Accept"}
	values := map[string][]string{
		"Connection":     {"close", "X-A", "keep-alive, x-b", "HOST", "Content-Length", "via,trailer", "", ",", "x-a , Close"},
		"Content-Length": {"5", "5", "5", "05", "6", "x", "5, 5"}, "Transfer-Encoding": {"chunked", "Chunked", "gzip"}, "Host": {"h", "h:80", ""},
	}
	var l []api.Field
	for range r.Intn(6) {
		name := names[r.Intn(len(names))]
		value := "v"
		if v := values[name]; v != nil {
			value = v[r.Intn(len(v))]
		}
		switch r.Intn(4) {
		case 0:
			name = strings.ToLower(name)
		case 1:
			name = strings.ToUpper(name)
		}
		l = append(l, api.Field{Name: name, Value: value})
	}
	return l
}

// shares tells whether two texts lie in the same memory.
func shares(a, b string) bool {
	if a == "" || b == "" {
		return false
	}
	x, y := uintptr(unsafe.Pointer(unsafe.StringData(a))), uintptr(unsafe.Pointer(unsafe.StringData(b)))
	return x < y+uintptr(len(b)) && y < x+uintptr(len(a))
}
