package reel

// tape is what one tape has; the first bytes of it, as many as safe says, stay
// whatever becomes of the power.
type tape struct {
	text []byte
	safe int
}

// write puts s at the end.
func (p *tape) write(s string) {
	p.text = append(p.text, s...)
}

// sync makes all safe.
func (p *tape) sync() {
	p.safe = len(p.text)
}

// trim leaves the first n bytes. Those of them that were not safe are not so
// now.
func (p *tape) trim(n int) {
	p.text = p.text[:n]
	p.safe = min(p.safe, n)
}

// crash leaves what is safe, and keep bytes behind it, the last of which is
// turned. What is left has outlived the power, so it is safe.
func (p *tape) crash(keep int, turn byte) {
	kept := min(max(keep, 0), len(p.text)-p.safe)
	p.text = p.text[:p.safe+kept]
	if kept > 0 {
		p.text[len(p.text)-1] ^= turn
	}
	p.sync()
}
