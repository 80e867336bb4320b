package write

import (
	"strconv"

	"headrace/api"
	"headrace/fields"
	"headrace/lexis"
	"headrace/target"
)

// onward is the target with which a request goes on.
func onward(t api.Target) string {
	if t.Form == api.TgAbsolute {
		t.Form, t.Host, t.Port = api.TgOrigin, "", -1
	}
	s, _ := target.Print(t)
	return s
}

// asked are the fields of a request that goes on, ahead of Via.
func asked(l []api.Field, t api.Target, n int) []api.Field {
	if t.Form == api.TgAbsolute {
		l, _ = fields.Set(fields.Strip(l), host, hostText(t))
	} else {
		l = stripped(l, host)
	}
	for _, name := range []string{length, "Expect", "Trailer"} {
		l = fields.Drop(l, name)
	}
	if n != noBody {
		l = append(l, api.Field{Name: length, Value: strconv.Itoa(n)})
	}
	return l
}

// answered are the fields of a response that goes back, ahead of Via.
func answered(l []api.Field, f api.Framing) []api.Field {
	if f.Kind == api.FrLength {
		l = stripped(l, length)
	} else {
		l = fields.Strip(l)
	}
	// Beside chunks and an end by the connection's no length stands: framing refused it, or found none.
	return fields.Drop(l, "Trailer")
}

// stripped are fields without those of one connection, but with those of one name, though connection may name it too.
// A peer that names Host or Content-Length there must not change for whom a request is, or where a body's end is looked for.
func stripped(l []api.Field, needed string) []api.Field {
	left := fields.Drop(l, connection)
	for _, item := range fields.Items(l, connection) {
		if !lexis.Same(item, needed) {
			left = append(left, api.Field{Name: connection, Value: item})
		}
	}
	return fields.Strip(left)
}

// ends are the fields of an answer that tell its client how the body and the connection end.
func ends(s Shape, c Client) []api.Field {
	var l []api.Field
	if s.Chunked {
		l = append(l, api.Field{Name: coding, Value: "chunked"})
	}
	switch {
	case !s.Keep:
		l = append(l, api.Field{Name: connection, Value: "close"})
	case c.Minor == 0:
		l = append(l, api.Field{Name: connection, Value: "keep-alive"})
	}
	return l
}

// hostText is the host of an absolute target, as it stands in the field Host.
func hostText(t api.Target) string {
	if t.Port < 0 {
		return t.Host
	}
	return t.Host + ":" + strconv.Itoa(t.Port)
}
