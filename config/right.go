package config

import (
	"slices"
	"strings"

	"headrace/api"
	"headrace/lexis"
	"headrace/target"
)

// hostsRight tells whether a configuration may have these hosts.
func hostsRight(hosts []api.Host) bool {
	if len(hosts) < 1 || len(hosts) > api.MaxHosts {
		return false
	}
	var names []string
	for _, h := range hosts {
		if !isHost(h.Name) || !hostFits(h) {
			return false
		}
		names = append(names, h.Name)
	}
	return !twice(names)
}

// routesRight tells whether a configuration of so many hosts may have these routes.
func routesRight(routes []api.Route, hosts int) bool {
	if len(routes) < 1 || len(routes) > api.MaxRoutes {
		return false
	}
	for _, r := range routes {
		if !matchRight(r.Match) || !numbersRight(r.Hosts, hosts) || !routeFits(r) {
			return false
		}
	}
	return true
}

// restRight tells whether a configuration is right beside its hosts and routes.
func restRight(c api.Config) bool {
	return restFits(c) && c.Longest >= c.Base && (isPlace(c.Path) || c.Path == "" && c.Every == 0)
}

// matchRight tells whether a route may ask for this.
func matchRight(m api.Match) bool {
	if len(m.Methods) > api.MaxMethods || !isPlace(m.Prefix) || !isPattern(m.Host) {
		return false
	}
	for _, method := range m.Methods {
		if !lexis.Token(method) {
			return false
		}
	}
	if m.Header == "" {
		return m.Value == ""
	}
	return lexis.Token(m.Header) && lexis.Value(m.Value)
}

// numbersRight tells whether a route may have the hosts of these numbers, of so many hosts.
func numbersRight(numbers []int, hosts int) bool {
	if len(numbers) < 1 || len(numbers) > api.MaxHosts {
		return false
	}
	for _, n := range numbers {
		if n < 0 || n >= hosts {
			return false
		}
	}
	return !twice(numbers)
}

// isHost tells whether a text is a host in small letters, without a port.
func isHost(s string) bool {
	// The port need not be looked at: a text that has one, or a : alone, is not told as it is.
	host, _, e := target.Host(s)
	return e == api.OK && host == s
}

// isPattern tells whether a text says of which hosts a route takes requests.
func isPattern(s string) bool {
	// A * may stand in a host, so *. alone is one too.
	return s == "" || isHost(s) || isHost(strings.TrimPrefix(s, "*."))
}

// isPlace tells whether a text is a path without a query and without dots.
func isPlace(s string) bool {
	t, e := target.Parse("GET", s)
	if e != api.OK || t.Form != api.TgOrigin || t.Asked {
		return false
	}
	clean, e := target.Clean(s)
	return e == api.OK && clean == s
}

// twice tells whether a list has a member twice.
func twice[T comparable](list []T) bool {
	for i, x := range list {
		if slices.Contains(list[:i], x) {
			return true
		}
	}
	return false
}
