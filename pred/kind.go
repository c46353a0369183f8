package pred

// How many parts nodes of a kind have.
const (
	none int = 0
	one  int = 1
	many int = 2 // any number, also none
)

// kind tells what nodes of a kind have, and what they ask.
type kind struct {
	word    string                         // what their text begins with; no kind's word begins with another one's
	parts   int                            // none, one or many
	numbers func(p *Expr) []*uint64        // those that they name, in order
	fits    func(p Expr) bool              // may A and B be these, and the parts so many?
	asks    func(p Expr, x, v uint64) bool // does it hold? (of one that is right)
}

// kindOf is the kind of that number, if there is one.
func kindOf(n int) (kind, bool) {
	if n < All || n > Or {
		return kind{}, false
	}
	return kinds()[n], true
}

// kinds are all kinds, each at its number.
func kinds() [Or + 1]kind {
	return [Or + 1]kind{
		All:   {"all", none, nameNothing, fitsAll, asksNothing},
		XMost: {"x<=", none, nameA, fitsMost, asksXMost},
		VMost: {"v<=", none, nameA, fitsMost, asksVMost},
		VMod:  {"v%", none, nameBoth, fitsMod, asksMod},
		Not:   {"!", one, nameNothing, fitsNot, asksNot},
		And:   {"&", many, nameNothing, fitsMany, asksAnd},
		Or:    {"|", many, nameNothing, fitsMany, asksOr},
	}
}

func nameNothing(p *Expr) []*uint64 { return nil }
func nameA(p *Expr) []*uint64       { return []*uint64{&p.A} }
func nameBoth(p *Expr) []*uint64    { return []*uint64{&p.A, &p.B} }

func fitsAll(p Expr) bool  { return p.A == 0 && p.B == 0 && len(p.Parts) == 0 }
func fitsMost(p Expr) bool { return p.B == 0 && len(p.Parts) == 0 }
func fitsMod(p Expr) bool  { return p.A > p.B && len(p.Parts) == 0 }
func fitsNot(p Expr) bool  { return p.A == 0 && p.B == 0 && len(p.Parts) == 1 }
func fitsMany(p Expr) bool { return p.A == 0 && p.B == 0 }

func asksNothing(p Expr, x, v uint64) bool { return true }
func asksXMost(p Expr, x, v uint64) bool   { return x <= p.A }
func asksVMost(p Expr, x, v uint64) bool   { return v <= p.A }
func asksMod(p Expr, x, v uint64) bool     { return v%p.A == p.B }
func asksNot(p Expr, x, v uint64) bool     { return !holds(p.Parts[0], x, v) }

func asksAnd(p Expr, x, v uint64) bool {
	for _, q := range p.Parts {
		if !holds(q, x, v) {
			return false
		}
	}
	return true
}

func asksOr(p Expr, x, v uint64) bool {
	for _, q := range p.Parts {
		if holds(q, x, v) {
			return true
		}
	}
	return false
}
