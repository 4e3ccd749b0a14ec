package gproto

import (
	"slices"

	"postchaise/api"
	"postchaise/gframe"
)

// mayBe: whether Begin makes a drive of these (P15.1).
func mayBe(letter, size, room int) bool {
	if gframe.Code(size) == 0 || !isIn(room, 1, mostRoom) {
		return false
	}
	return letter == 'G' || letter == 'g' && size <= mostOfSmall
}

func isIn(n, least, most int) bool { return least <= n && n <= most }

// Right: whether d is right (P15.6).
func Right(d api.Drive) bool {
	if !mayBe(d.Letter, d.Size, d.Room) || !hasRightNumbers(d) {
		return false
	}
	if len(d.Ahead) > 0 || slices.ContainsFunc(d.Queue, isEmpty) {
		return false
	}
	switch d.Phase {
	case api.Opening:
		return isIn(d.Step, 0, lastStep) && len(d.Win.List) == 0
	case api.Running:
		return isIn(d.Step, noNumber, modulus-1) && hasRightWindow(d)
	case api.Closing, api.Closed, api.Failed:
		return true
	}
	return false
}

// hasRightNumbers: whether d's numbers are right that no phase asks otherwise of. Of Tries one more than may be tried: so a drive fails.
func hasRightNumbers(d api.Drive) bool {
	return isIn(d.Wants, 0, modulus-1) && isIn(d.At, 0, api.MaxNumber) && isIn(d.Wait, 0, again|taken) && isIn(d.Tries, 0, mostTries+1)
}

func isEmpty(p api.Piece) bool { return p.Data == "" }

// hasRightWindow: whether d's window is one of a drive that runs.
func hasRightWindow(d api.Drive) bool {
	w := d.Win
	if w.Mod != modulus || w.Size != d.Room || !isIn(w.Base, 0, modulus-1) || len(w.List) > w.Size {
		return false
	}
	for _, text := range w.List {
		if !isIn(len(text), 1, d.Size) {
			return false
		}
	}
	return true
}
