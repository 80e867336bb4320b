package desk

import (
	"strings"

	"headrace/api"
	"headrace/config"
)

// remark begins a line that is passed over.
const remark = "#"

// script is what a script's lines say.
type script struct {
	config api.Config
	events []placed
}

// placed is an event, and its line's number.
type placed struct {
	line  int
	event api.Event
}

// setting is what a line of the configuration sets.
type setting struct {
	set func(w *words, c *api.Config)
}

// settings are the lines of the configuration, by their first words.
func settings() map[string]setting {
	return map[string]setting{
		"host": {func(w *words, c *api.Config) {
			c.Hosts = append(c.Hosts, api.Host{Name: w.word(), Cap: w.number(), Pend: w.number()})
		}},
		"route": {func(w *words, c *api.Config) {
			r := plainRoute()
			r.Prefix, r.Rate, r.Per, r.Burst, r.Retries = w.word(), w.number(), w.number(), w.number(), w.number()
			c.Routes = append(c.Routes, r)
		}},
		"limits": {func(w *words, c *api.Config) {
			c.MaxHead, c.MaxBody, c.MaxOut = w.number(), w.number(), w.number()
		}},
	}
}

// read is what a script says, or its first wrong line's number, and what is wrong.
func read(text string) (script, int, api.Errno) {
	lines, e := linesOf(text)
	if e != api.OK {
		return script{}, 0, e
	}
	s := script{config: plainConfig()}
	for i, line := range lines {
		if line == "" || strings.HasPrefix(line, remark) {
			continue
		}
		if e := caught(func() { s.take(i+1, line) }); e != api.OK {
			return script{}, i + 1, e
		}
	}
	s.spread()
	if e := config.Check(s.config); e != api.OK {
		return script{}, 0, e
	}
	return s, 0, api.OK
}

// linesOf are a script's lines, without their ends.
func linesOf(text string) ([]string, api.Errno) {
	if len(text) > api.MaxBytes {
		return nil, api.ErrLong
	}
	lines := strings.Split(text, lineEnd)
	if last := len(lines) - 1; lines[last] == "" {
		lines = lines[:last]
	}
	if len(lines) > MaxLines {
		return nil, api.ErrLong
	}
	return lines, api.OK
}

// take takes a line. It gives up where that is none, or stands where it may not.
func (s *script) take(number int, line string) {
	w := wordsOf(line)
	x, ok := settings()[w.word()]
	if !ok {
		s.events = append(s.events, placed{number, event(line)})
		return
	}
	x.set(w, &s.config)
	w.end()
	if len(s.events) > 0 {
		giveUp(api.ErrState)
	}
}

// spread gives each route all hosts. Of more than there may be it leaves some out: the configuration is wrong by them.
func (s *script) spread() {
	for i := range s.config.Routes {
		for host := range min(len(s.config.Hosts), api.MaxHosts) {
			s.config.Routes[i].Hosts = append(s.config.Routes[i].Hosts, host)
		}
	}
}

// plainRoute is a route of which its line's numbers are to be set.
func plainRoute() api.Route {
	return api.Route{
		Open: 100, Cool: 10, Probes: 1,
		Percent: 100, Min: 10, Window: 100,
		HedgeAfter: 10, PerTry: 50, Total: 200,
	}
}

// plainConfig is a configuration without hosts and routes.
func plainConfig() api.Config {
	return api.Config{
		Timeout: 1, Up: 1, Down: 1,
		Base: 1, Longest: 1,
		MaxHead: 1000, MaxBody: 1000, MaxOut: 1000,
		HeadTime: 100, Idle: 100, Life: 1000,
		Clients: 16,
	}
}
