package chunked

import (
	"slices"

	"headrace/api"
	"headrace/fields"
	"headrace/lexis"
)

const lineEnd = "\r\n"

// Chunk is a chunk of some bytes.
func Chunk(b []byte) []byte {
	// A chunk of no bytes would be read as the last one.
	if len(b) == 0 {
		return nil
	}
	size, _ := lexis.HexText(len(b))
	return slices.Concat([]byte(size+lineEnd), b, []byte(lineEnd))
}

// Last is the last chunk, with trailers.
func Last(l []api.Field) ([]byte, api.Errno) {
	if e := fields.Check(l); e != api.OK {
		return nil, e
	}
	text := []byte("0" + lineEnd)
	for _, f := range l {
		text = append(text, f.Name+": "+f.Value+lineEnd...)
	}
	return append(text, lineEnd...), api.OK
}
