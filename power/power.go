// Package power is layer 1: steps, till the power goes: see shared/doc/01-power.md.
package power

// Power counts steps.
type Power struct {
	limit int
	used  int
}

// gone is what the power goes by: a type of its own, so that Run tells it from every other panic.
type gone struct{}

// New: so many steps; below 0: as many as come.
func New(limit int) *Power { return &Power{limit: limit} }

// Tick: one step; behind the last one the power goes.
func (p *Power) Tick() {
	if p.limit >= 0 && p.used == p.limit {
		panic(gone{})
	}
	p.used++
}

// Used: how many steps were done.
func (p *Power) Used() int { return p.used }

// Run: something is done; did the power stay?
func Run(do func()) (whole bool) {
	defer func() {
		why := recover()
		if why == nil {
			return
		}
		if _, ok := why.(gone); !ok {
			panic(why)
		}
	}()
	do()
	return true
}
