package post

import (
	"slices"

	"furlong/api"
	"furlong/roll"
)

const (
	mostEntry = 2 * api.MaxCargo // bytes of an entry's text
	mostText  = 1 << 18          // bytes of a plot's text
	leastHint = -1               // what stands ahead of all indices
)

// ownWire is w with nothing but the fields that a wire of its kind has.
func ownWire(w api.Wire) api.Wire {
	if w.Kind != api.RaAppend {
		w.Entries = nil
	}
	if w.Kind != api.RaSnap {
		w.Text = ""
	}
	return w
}

// fitsWire is whether w's fields are such as they have to be.
func fitsWire(w api.Wire) bool {
	return among(int64(w.Kind), api.RaPre, api.RaSnap) &&
		among(w.From, 1, api.MaxId) && among(w.To, 1, api.MaxId) && w.From != w.To &&
		among(w.Term, 1, api.MaxTerm) && among(w.Commit, 0, api.MaxIndex) && among(w.Hint, leastHint, api.MaxIndex) &&
		fitsEntries(w) && len(w.Text) <= mostText
}

// fitsEntries is whether w's entries may stand where it says.
func fitsEntries(w api.Wire) bool {
	if len(w.Entries) > api.MaxSlips {
		return false
	}
	for _, e := range w.Entries {
		if len(e.Text) > mostEntry {
			return false
		}
	}
	// This asks of Index and LogTerm, too, whether they may be, also where there
	// are no entries behind them.
	return roll.Check(api.Roll{Base: w.Index, BaseTerm: w.LogTerm, Entries: w.Entries}) == api.OK
}

// sameWire is whether a and b are the same, entry by entry.
func sameWire(a, b api.Wire) bool {
	return a.Kind == b.Kind && a.From == b.From && a.To == b.To && a.Term == b.Term &&
		a.Index == b.Index && a.LogTerm == b.LogTerm && a.Commit == b.Commit && a.Hint == b.Hint && a.Reject == b.Reject &&
		slices.Equal(a.Entries, b.Entries) && a.Text == b.Text
}
