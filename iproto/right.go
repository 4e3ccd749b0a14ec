package iproto

import (
	"slices"

	"postchaise/api"
)

// mayBe: whether Begin makes a drive of these (P16.1).
func mayBe(size, room int) bool { return isIn(size, 1, mostSize) && isIn(room, 1, mostRoom) }

func isIn(n, least, most int) bool { return least <= n && n <= most }

// mayWait: whether p may be sent (P16.4).
func mayWait(p api.Piece) bool { return p.Data != "" && isIn(p.Channel, 0, mostChannel) }

// Right: whether d is right (P16.6).
func Right(d api.Drive) bool {
	if d.Letter != letter || !mayBe(d.Size, d.Room) || !hasRightNumbers(d) || !hasRightLists(d) {
		return false
	}
	switch d.Phase {
	case api.Opening:
		return len(d.Win.List) == 0 && len(d.Ahead) == 0
	case api.Running:
		return isIn(d.Step, noNumber, modulus-1) && hasRightWindow(d)
	case api.Closing, api.Closed, api.Failed:
		return true
	}
	return false
}

// hasRightNumbers: whether d's numbers are right that no phase asks otherwise of. Of Tries one more than may be tried: so a drive fails.
func hasRightNumbers(d api.Drive) bool {
	return isIn(d.Wants, 0, modulus-1) && isIn(d.At, 0, api.MaxNumber) && isIn(d.Wait, 0, again|taken) && isIn(d.Tries, 0, mostTries+1)
}

// hasRightLists: whether all may be that waits, that was sent and that came early.
func hasRightLists(d api.Drive) bool {
	isWrongPiece := func(p api.Piece) bool { return !mayWait(p) }
	isWrongText := func(text string) bool {
		return !isIn(len(text), channelBytes+1, channelBytes+d.Size) || text[0] > mostChannel
	}
	return !slices.ContainsFunc(d.Queue, isWrongPiece) && !slices.ContainsFunc(d.Win.List, isWrongText) && hasRightAhead(d)
}

// hasRightAhead: whether what came early has bytes, and stands in the order in which it is waited for.
func hasRightAhead(d api.Drive) bool {
	last := 0
	for _, f := range d.Ahead {
		early := earliness(d.Wants, f)
		if f.Data == "" || !isIn(early, last+1, mostEarly) {
			return false
		}
		last = early
	}
	return true
}

// hasRightWindow: whether d's window is one of a drive that runs.
func hasRightWindow(d api.Drive) bool {
	w := d.Win
	return w.Mod == modulus && w.Size == d.Room && isIn(w.Base, 0, modulus-1) && len(w.List) <= w.Size
}
