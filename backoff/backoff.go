// Package backoff is layer 21: how long a system is left alone. See shared/doc/21-backoff.md.
package backoff

import (
	"math"
	"strings"

	"postchaise/api"
	"postchaise/disk"
	"postchaise/name"
	"postchaise/octet"
)

const (
	leastWait    = 1 // of what a policy may mean
	mostWait     = 1 << 30
	leastFactor  = 1
	mostFactor   = 1000
	mostTimes    = 1000000 // that a wait is made longer
	mostFails    = 1000    // that are counted
	mostWhy      = 99      // of the errors that are noted
	statusKind   = 'S'     // of the note of how calls went
	turnKind     = 'Q'     // of the note of a turn
	blank        = " "     // between the numbers of a note
	statusFields = 3       // of a note of how calls went: Fails, Last, Why
)

// Clean: the policy that p means (P21.1).
func Clean(p api.Policy) api.Policy {
	least := meant(p.Least, leastWait, mostWait)
	return api.Policy{
		Least:  least,
		Factor: meant(p.Factor, leastFactor, mostFactor),
		Most:   meant(p.Most, least, mostWait),
	}
}

// meant: x, brought between least and most; least, if it is no number.
func meant(x, least, most float64) float64 {
	if math.IsNaN(x) {
		return least
	}
	return min(max(x, least), most)
}

// Right: whether p is its own Clean (P21.1).
func Right(p api.Policy) bool { return p == Clean(p) }

// Wait: how long a system is left alone behind so many calls that failed (P21.2).
func Wait(p api.Policy, fails int) int {
	if fails < 1 {
		return 0
	}
	c := Clean(p)
	wait := c.Least
	for range min(fails-1, mostTimes) {
		longer := min(wait*c.Factor, c.Most)
		if longer == wait { // and so is every one behind it
			break
		}
		wait = longer
	}
	return int(wait)
}

// Next: when a system of which s is known may be called again (P21.3).
func Next(s api.Status, p api.Policy) int { return moment(s.Last) + Wait(p, s.Fails) }

// moment: t, brought to what a time may be.
func moment(t int) int { return min(max(t, 0), api.MaxNumber) }

// After: what is known behind a call at now that ended so, where s was known ahead of it (P21.3).
func After(s api.Status, now int, why api.Errno) api.Status {
	fails := 0
	if why != api.OK {
		fails = min(max(s.Fails, 0), mostFails-1) + 1
	}
	return api.Status{Fails: fails, Last: moment(now), Why: why}
}

// Less: whether a comes ahead of b in the order of all floats (P21.4).
func Less(a, b float64) bool {
	if math.IsNaN(a) || math.IsNaN(b) {
		return !math.IsNaN(a)
	}
	if a == b { // a nought has a sign all the same
		return math.Signbit(a) && !math.Signbit(b)
	}
	return a < b
}

// Smooth: old, as much nearer to x as alpha says (P21.5).
func Smooth(old, x, alpha float64) float64 {
	switch {
	case math.IsNaN(x):
		return old
	case math.IsNaN(old), math.IsNaN(alpha), alpha >= 1:
		return x
	case alpha <= 0, x == old:
		return old
	}
	// Each product is made a float64 of its own, lest a machine rounds it and the sum in one.
	s := float64(alpha*x) + float64((1-alpha)*old)
	if math.IsNaN(s) {
		return x
	}
	return min(max(s, min(x, old)), max(x, old))
}

// Put: d with s noted of that system (P21.6).
func Put(d api.Disk, system string, s api.Status) (api.Disk, api.Errno) {
	file, e := name.Note(statusKind, system)
	if e != api.OK {
		return d, e
	}
	if !mayNote(s) {
		return d, api.ErrArg
	}
	fields := []string{octet.Text(s.Fails), octet.Text(s.Last), octet.Text(int(s.Why))}
	return note(d, file, strings.Join(fields, blank))
}

// mayNote: whether s may be noted.
func mayNote(s api.Status) bool {
	return isUpTo(s.Fails, mostFails) && isUpTo(s.Last, api.MaxNumber) && isUpTo(int(s.Why), mostWhy)
}

func isUpTo(n, most int) bool { return 0 <= n && n <= most }

// note: d with a note that says just that, safe.
func note(d api.Disk, file, says string) (api.Disk, api.Errno) {
	behind, e := disk.Write(d, file, says)
	if e != api.OK {
		return behind, e
	}
	return disk.Sync(behind)
}

// Get: what Put noted of that system (P21.6).
func Get(d api.Disk, system string) api.Status {
	fields := strings.Split(noted(d, statusKind, system), blank)
	if len(fields) != statusFields {
		return api.Status{}
	}
	var numbers [statusFields]int
	for i, s := range fields {
		n, e := octet.Number(s)
		if e != api.OK {
			return api.Status{}
		}
		numbers[i] = n
	}
	s := api.Status{Fails: numbers[0], Last: numbers[1], Why: api.Errno(numbers[2])}
	if !mayNote(s) {
		return api.Status{}
	}
	return s
}

// noted: what the note of that kind of that system says; nothing, if there is none.
func noted(d api.Disk, kind int, system string) string {
	file, e := name.Note(kind, system)
	if e != api.OK {
		return ""
	}
	says, _ := disk.Read(d, file)
	return says
}

// SetTurn: d with n noted of that system (P21.7).
func SetTurn(d api.Disk, system string, n int) (api.Disk, api.Errno) {
	file, e := name.Note(turnKind, system)
	if e != api.OK {
		return d, e
	}
	if !isUpTo(n, api.MaxNumber) {
		return d, api.ErrArg
	}
	return note(d, file, octet.Text(n))
}

// Turn: the number that SetTurn noted of that system (P21.7).
func Turn(d api.Disk, system string) int {
	n, _ := octet.Number(noted(d, turnKind, system)) // 0 where no number stands
	return n
}
