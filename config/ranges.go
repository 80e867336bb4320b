package config

import "headrace/api"

// bounds are the least and the greatest that a number may be.
type bounds struct{ least, most int }

// hold tells whether a number is one of a range.
func (b bounds) hold(n int) bool { return b.least <= n && n <= b.most }

// hostRanges are those of a host's numbers, in the order in which hostFits tells them.
var hostRanges = [...]bounds{
	{1, 64}, // Cap
	{0, 64}, // Pend
}

// routeRanges are those of a route's numbers, in the order in which routeFits tells them.
var routeRanges = [...]bounds{
	{0, MaxSpan}, // Rate
	{1, MaxSpan}, // Per
	{0, MaxSpan}, // Burst
	{1, 1000},    // Open
	{0, 1000},    // Fails
	{1, MaxSpan}, // Cool
	{1, 100},     // Probes
	{0, 100},     // Percent
	{0, 1000},    // Min
	{1, MaxSpan}, // Window
	{0, 5},       // Retries
	{0, 3},       // Hedges
	{1, MaxSpan}, // HedgeAfter
	{1, MaxSpan}, // PerTry
	{1, MaxSpan}, // Total
}

// restRanges are those of a configuration's own numbers, in the order in which restFits tells them.
var restRanges = [...]bounds{
	{0, MaxSpan},      // Every
	{1, MaxSpan},      // Timeout
	{1, 100},          // Up
	{1, 100},          // Down
	{0, 1000},         // Fails
	{1, MaxSpan},      // Base
	{1, MaxSpan},      // Longest
	{0, 100},          // Share
	{16, api.MaxHead}, // MaxHead
	{0, api.MaxBytes}, // MaxBody
	{1, api.MaxBytes}, // MaxOut
	{1, MaxSpan},      // HeadTime
	{1, MaxSpan},      // Idle
	{1, MaxSpan},      // Life
	{1, 256},          // Clients
}

// hostFits tells whether a host's numbers are in their ranges.
func hostFits(h api.Host) bool {
	for i, n := range [len(hostRanges)]int{h.Cap, h.Pend} {
		if !hostRanges[i].hold(n) {
			return false
		}
	}
	return true
}

// routeFits tells whether a route's numbers are in their ranges.
func routeFits(r api.Route) bool {
	for i, n := range [len(routeRanges)]int{
		r.Rate, r.Per, r.Burst,
		r.Open,
		r.Fails, r.Cool, r.Probes,
		r.Percent, r.Min, r.Window,
		r.Retries, r.Hedges, r.HedgeAfter,
		r.PerTry, r.Total,
	} {
		if !routeRanges[i].hold(n) {
			return false
		}
	}
	return true
}

// restFits tells whether a configuration's own numbers are in their ranges.
func restFits(c api.Config) bool {
	for i, n := range [len(restRanges)]int{
		c.Every, c.Timeout, c.Up, c.Down,
		c.Fails, c.Base, c.Longest, c.Share,
		c.MaxHead, c.MaxBody, c.MaxOut,
		c.HeadTime, c.Idle, c.Life,
		c.Clients,
	} {
		if !restRanges[i].hold(n) {
			return false
		}
	}
	return true
}
