package desk

import (
	"strconv"
	"strings"

	"headrace/api"
)

// broken is with what a line that is not right gives up.
type broken struct{ why api.Errno }

// giveUp leaves a line that is not right.
func giveUp(why api.Errno) { panic(broken{why}) }

// caught does what may give up, and tells why it did.
func caught(do func()) (why api.Errno) {
	defer func() {
		x := recover()
		if x == nil {
			return
		}
		b, ok := x.(broken)
		if !ok {
			panic(x)
		}
		why = b.why
	}()
	do()
	return api.OK
}

// words are what is left of a line to be read.
type words struct {
	rest string
	more bool // there is a word or a text, be it empty
}

func wordsOf(line string) *words { return &words{line, true} }

// word is the next word.
func (w *words) word() string {
	var s string
	s, w.rest, w.more = strings.Cut(w.text(), blank)
	if s == "" {
		giveUp(api.ErrForm)
	}
	return s
}

// number is the number that the next word is.
func (w *words) number() int {
	s := w.word()
	n, err := strconv.ParseUint(s, 10, 32)
	if err != nil || s != strconv.FormatUint(n, 10) {
		giveUp(api.ErrForm)
	}
	return int(n)
}

// text is all that is left.
func (w *words) text() string {
	if !w.more {
		giveUp(api.ErrForm)
	}
	w.more = false
	return w.rest
}

// end looks at whether nothing is left.
func (w *words) end() {
	if w.more {
		giveUp(api.ErrForm)
	}
}
