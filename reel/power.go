package reel

import "furlong/api"

// Arm lets n more operations be done, and the power go off with the one behind
// them; n below 0: it does not go off.
func (r *Reel) Arm(n int) {
	if r != nil {
		r.left = n
	}
}

// Crash has the power off for a moment: of what is not safe only that much
// stays as a says.
func (r *Reel) Crash(a api.Tail) {
	if r == nil {
		return
	}
	for t := range r.tapes {
		r.tapes[t].crash(a.Keep[t], a.Turn)
	}
	r.dead = false
	r.left = -1
}

// Dead is whether the power is off.
func (r *Reel) Dead() bool {
	return r != nil && r.dead
}

// power is whether there is power for one operation more. It counts also those
// that are then refused for want of room or of bytes: the power goes off with
// an operation whatever comes of it.
func (r *Reel) power() api.Errno {
	if r.left == 0 {
		r.dead = true
	}
	if r.dead {
		return api.ErrDead
	}
	if r.left > 0 {
		r.left--
	}
	return api.OK
}
