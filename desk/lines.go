package desk

import "headrace/api"

// command is what the words behind the first one of an event's line are.
type command struct {
	kind  int
	parts []part
}

// part is one word, or the text, of an event's line.
type part struct {
	read func(w *words, e *api.Event)
	tell func(e api.Event) string
}

// commands are the events' lines, by their first words.
func commands() map[string]command {
	conn := part{
		func(w *words, e *api.Event) { e.Conn = w.number() },
		func(e api.Event) string { return number(e.Conn) },
	}
	n := part{
		func(w *words, e *api.Event) { e.N = w.number() },
		func(e api.Event) string { return number(e.N) },
	}
	text := part{
		func(w *words, e *api.Event) { e.Bytes = bytesOf(w.text()) },
		func(e api.Event) string { return textOf(e.Bytes) },
	}
	return map[string]command{
		"tick":    {api.EvTick, []part{n}},
		"open":    {api.EvOpen, []part{conn}},
		"bytes":   {api.EvBytes, []part{conn, text}},
		"end":     {api.EvEnd, []part{conn}},
		"reset":   {api.EvReset, []part{conn}},
		"up":      {api.EvUp, []part{conn}},
		"refused": {api.EvRefused, []part{conn}},
		"room":    {api.EvRoom, []part{conn, n}},
		"draw":    {api.EvDraw, []part{n}},
		"drain":   {api.EvDrain, nil},
	}
}

// event is what a line says. It gives up where that is none.
func event(line string) api.Event {
	w := wordsOf(line)
	c, ok := commands()[w.word()]
	if !ok {
		giveUp(api.ErrForm)
	}
	e := api.Event{Kind: c.kind}
	for _, x := range c.parts {
		x.read(w, &e)
	}
	w.end()
	return e
}

// eventLine is an event's line, if it has one; else an empty one, which is none.
func eventLine(e api.Event) string {
	for word, c := range commands() {
		if c.kind != e.Kind {
			continue
		}
		list := []string{word}
		for _, x := range c.parts {
			list = append(list, x.tell(e))
		}
		return joined(list...)
	}
	return ""
}

// report is an act's line.
type report struct {
	word string
	rest func(a api.Act) []string
}

// reports are the acts' lines, by their kinds.
func reports() map[int]report {
	host := func(a api.Act) []string { return []string{number(a.Host)} }
	route := func(a api.Act) []string { return []string{number(a.N)} }
	requested := func(a api.Act) []string { return []string{number(a.Conn), number(a.Req), number(a.N)} }
	return map[int]report{
		api.AcOpen:   {"open", func(a api.Act) []string { return []string{number(a.Conn), number(a.Host)} }},
		api.AcWrite:  {"write", func(a api.Act) []string { return []string{number(a.Conn), textOf(a.Bytes)} }},
		api.AcClose:  {"close", func(a api.Act) []string { return []string{number(a.Conn)} }},
		api.AcParsed: {"parsed", requested},
		api.AcAdmit:  {"admit", requested},
		api.AcTry:    {"try", func(a api.Act) []string { return []string{number(a.Req), number(a.Host), number(a.N)} }},
		api.AcAnswer: {"answer", func(a api.Act) []string {
			return []string{number(a.Conn), number(a.Req), number(a.Status), number(a.N)}
		}},
		api.AcDone:    {"done", func(a api.Act) []string { return []string{number(a.Conn), number(a.Req)} }},
		api.AcEject:   {"eject", host},
		api.AcRestore: {"restore", host},
		api.AcDown:    {"down", host},
		api.AcHealthy: {"healthy", host},
		api.AcBreak:   {"break", route},
		api.AcMend:    {"mend", route},
	}
}
