// Package routes is layer 33: see shared/doc/33-routes.md.
package routes

import (
	"postchaise/api"
)

// Cost: see the chapter.
func Cost(s string) (float64, api.Errno) { return 0, 0 }

// Parse: see the chapter.
func Parse(s string) ([]api.Edge, int, api.Errno) { return nil, 0, 0 }

// Best: see the chapter.
func Best(l []api.Edge, from, to string) ([]string, float64, api.Errno) { return nil, 0, 0 }

// All: see the chapter.
func All(l []api.Edge, from string) ([]string, api.Errno) { return nil, 0 }
