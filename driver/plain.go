package driver

import (
	"postchaise/api"
)

// The letter of the protocol that hands bytes on as they are.
const plain = 'e'

func beginPlain(letter int, caller bool, _, _ int) (api.Drive, string, api.Errno) {
	if letter != plain {
		return api.Drive{}, "", api.ErrArg
	}
	return api.Drive{Letter: plain, Caller: caller, Phase: api.Running}, "", api.OK
}

// feedPlain: At stays at MaxNumber, for no packet of e has a place.
func feedPlain(d api.Drive, s string) (api.Drive, string, []api.Piece) {
	d.Took = nil
	if !rightPlain(d) {
		return d, "", nil
	}
	d.At = min(d.At+len(s), api.MaxNumber)
	if d.Phase != api.Running || s == "" {
		return d, "", nil
	}
	return d, "", []api.Piece{{Data: s}}
}

func tickPlain(d api.Drive) (api.Drive, string) {
	d.Took = nil
	return d, ""
}

func sendPlain(d api.Drive, p api.Piece) (api.Drive, string) {
	d.Took = nil
	if !rightPlain(d) || d.Phase != api.Running {
		return d, ""
	}
	return d, p.Data
}

func closePlain(d api.Drive) (api.Drive, string) {
	d.Took = nil
	if rightPlain(d) {
		d.Phase = api.Closed
	}
	return d, ""
}

// rightPlain: whether d is a drive of e that has nothing which e does not need (P17.2).
func rightPlain(d api.Drive) bool {
	if d.Letter != plain || d.Phase != api.Running && d.Phase != api.Closed {
		return false
	}
	return 0 <= d.At && d.At <= api.MaxNumber && hasNoNumbers(d) && hasNoBytes(d)
}

func hasNoNumbers(d api.Drive) bool {
	w := d.Win
	return d.Step == 0 && d.Size == 0 && d.Room == 0 && d.Wants == 0 && d.Wait == 0 && d.Tries == 0 && w.Mod == 0 && w.Size == 0 && w.Base == 0
}

// hasNoBytes: whether nothing was kept: what came goes on at once, and what is sent is said at once.
func hasNoBytes(d api.Drive) bool { return Quiet(d) && len(d.Ahead) == 0 && d.Buf == "" }
