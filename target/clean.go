package target

import (
	"strings"

	"headrace/api"
)

// Clean is a path without dots.
func Clean(path string) (string, api.Errno) {
	if !strings.HasPrefix(path, "/") {
		return "", api.ErrArg
	}
	if len(path) > api.MaxLine {
		return "", api.ErrLong
	}
	return "/" + strings.Join(kept(strings.Split(path[1:], "/")), "/"), api.OK
}

// kept are the segments that stay.
func kept(segments []string) []string {
	var stay []string
	for i, s := range segments {
		switch s {
		case "..":
			stay = stay[:max(len(stay)-1, 0)]
			fallthrough
		case ".":
			// Behind a path that ended in dots there is a directory, not what lies in it.
			if i == len(segments)-1 {
				stay = append(stay, "")
			}
		default:
			stay = append(stay, s)
		}
	}
	return stay
}
