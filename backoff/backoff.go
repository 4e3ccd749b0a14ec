// Package backoff is layer 21: see shared/doc/21-backoff.md.
package backoff

import (
	"postchaise/api"
)

// Right: see the chapter.
func Right(p api.Policy) bool { return false }

// Clean: see the chapter.
func Clean(p api.Policy) api.Policy { return api.Policy{} }

// Wait: see the chapter.
func Wait(p api.Policy, fails int) int { return 0 }

// Next: see the chapter.
func Next(s api.Status, p api.Policy) int { return 0 }

// After: see the chapter.
func After(s api.Status, now int, why api.Errno) api.Status { return api.Status{} }

// Less: see the chapter.
func Less(a, b float64) bool { return false }

// Smooth: see the chapter.
func Smooth(old, x, alpha float64) float64 { return 0 }

// Put: see the chapter.
func Put(d api.Disk, system string, s api.Status) (api.Disk, api.Errno) { return api.Disk{}, 0 }

// Get: see the chapter.
func Get(d api.Disk, system string) api.Status { return api.Status{} }

// Turn: see the chapter.
func Turn(d api.Disk, system string) int { return 0 }

// SetTurn: see the chapter.
func SetTurn(d api.Disk, system string, n int) (api.Disk, api.Errno) { return api.Disk{}, 0 }
