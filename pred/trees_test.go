package pred_test

import (
	"math"
	"math/rand/v2"
	"slices"
	"strconv"
	"strings"

	"alibi/api"
	"alibi/pred"
)

// What the tests have of predicates' words: trees, and what they are by the words of the chapter alone.

const top = uint64(math.MaxUint64)

func all() pred.Expr               { return pred.Expr{Kind: pred.All} }
func xMost(a uint64) pred.Expr     { return pred.Expr{Kind: pred.XMost, A: a} }
func vMost(a uint64) pred.Expr     { return pred.Expr{Kind: pred.VMost, A: a} }
func vMod(a, b uint64) pred.Expr   { return pred.Expr{Kind: pred.VMod, A: a, B: b} }
func not(p pred.Expr) pred.Expr    { return pred.Expr{Kind: pred.Not, Parts: []pred.Expr{p}} }
func and(l ...pred.Expr) pred.Expr { return pred.Expr{Kind: pred.And, Parts: l} }
func or(l ...pred.Expr) pred.Expr  { return pred.Expr{Kind: pred.Or, Parts: l} }
func alls(n int) []pred.Expr       { return slices.Repeat([]pred.Expr{all()}, n) }

// nots is p with n Nots about it.
func nots(n int, p pred.Expr) pred.Expr {
	for range n {
		p = not(p)
	}
	return p
}

// placed is a node, and how deep it is.
type placed struct {
	p    pred.Expr
	deep int
}

// walk are all nodes of a tree.
func walk(p pred.Expr) []placed {
	l := []placed{{p, 1}}
	for i := 0; i < len(l); i++ {
		for _, q := range l[i].p.Parts {
			l = append(l, placed{q, l[i].deep + 1})
		}
	}
	return l
}

func depthByWords(p pred.Expr) int {
	l := walk(p)
	return l[len(l)-1].deep
}

func nodeByWords(p pred.Expr) bool {
	switch p.Kind {
	case 1:
		return p.A == 0 && p.B == 0 && len(p.Parts) == 0
	case 2, 3:
		return p.B == 0 && len(p.Parts) == 0
	case 4:
		return p.A > p.B && len(p.Parts) == 0
	case 5:
		return p.A == 0 && p.B == 0 && len(p.Parts) == 1
	case 6, 7:
		return p.A == 0 && p.B == 0
	}
	return false
}

func rightByWords(p pred.Expr) bool {
	l := walk(p)
	for _, x := range l {
		if !nodeByWords(x.p) {
			return false
		}
	}
	return len(l) <= 32 && depthByWords(p) <= 8
}

// holdsByWords is asked of right ones.
func holdsByWords(p pred.Expr, x, v uint64) bool {
	n := 0
	for _, q := range p.Parts {
		if holdsByWords(q, x, v) {
			n++
		}
	}
	switch p.Kind {
	case 1:
		return true
	case 2:
		return !(x > p.A)
	case 3:
		return !(v > p.A)
	case 4:
		return v-v/p.A*p.A == p.B
	case 5:
		return n == 0
	case 6:
		return n == len(p.Parts)
	}
	return n > 0
}

func numberByWords(v uint64) []byte {
	var b []byte
	for ; v > 127; v /= 128 {
		b = append(b, byte(128+v%128))
	}
	return append(b, byte(v))
}

// bytesByWords is asked of right ones.
func bytesByWords(p pred.Expr) []byte {
	b := []byte{byte(p.Kind)}
	switch p.Kind {
	case 2, 3:
		b = append(b, numberByWords(p.A)...)
	case 4:
		b = append(b, numberByWords(p.A)...)
		b = append(b, numberByWords(p.B)...)
	case 6, 7:
		b = append(b, numberByWords(uint64(len(p.Parts)))...)
	}
	for _, q := range p.Parts {
		b = append(b, bytesByWords(q)...)
	}
	return b
}

// textByWords is asked of right ones.
func textByWords(p pred.Expr) string {
	a, b := strconv.FormatUint(p.A, 10), strconv.FormatUint(p.B, 10)
	var l []string
	for _, q := range p.Parts {
		l = append(l, textByWords(q))
	}
	parts := strings.Join(l, ",")
	switch p.Kind {
	case 1:
		return "all"
	case 2:
		return "x<=" + a
	case 3:
		return "v<=" + a
	case 4:
		return "v%" + a + "=" + b
	case 5:
		return "!" + parts
	case 6:
		return "&(" + parts + ")"
	}
	return "|(" + parts + ")"
}

// numbers are small ones, and those where something may go over.
func numbers() []uint64 {
	return []uint64{0, 1, 2, 3, 7, 9, 10, 127, 128, 255, 256, 300, 16383, 16384, 1<<32 - 1, 1 << 32, 1<<63 - 1, 1 << 63, 1<<63 + 1, top - 1, top}
}

// grown are many right trees of all forms; the same ones each time.
func grown(many int) []pred.Expr {
	r := rand.New(rand.NewPCG(4, 32))
	var l []pred.Expr
	for len(l) < many {
		left := 1 + r.IntN(api.MaxNodes)
		if p := grow(r, 1+r.IntN(api.MaxDepth), &left); rightByWords(p) {
			l = append(l, p)
		}
	}
	return l
}

// grow is a tree of at most so many levels, which takes its nodes from those that are left.
func grow(r *rand.Rand, levels int, left *int) pred.Expr {
	*left--
	l := numbers()
	a, b := l[r.IntN(len(l))], l[r.IntN(len(l))]
	k := 1 + r.IntN(7)
	if levels == 1 {
		k = 1 + r.IntN(4)
	}
	switch k {
	case pred.All:
		return all()
	case pred.XMost:
		return xMost(a)
	case pred.VMost:
		return vMost(a)
	case pred.VMod:
		return vMod(max(a, b, 1), min(a, b))
	case pred.Not:
		return not(grow(r, levels-1, left))
	}
	p := pred.Expr{Kind: k}
	for *left > 0 && r.IntN(4) > 0 {
		p.Parts = append(p.Parts, grow(r, levels-1, left))
	}
	return p
}

// spoilt are trees that are not right: in themselves, and in a part.
func spoilt() []pred.Expr {
	some := []pred.Expr{all()}
	l := []pred.Expr{
		{}, {A: 1}, {Parts: some}, {Kind: 8}, {Kind: -1}, {Kind: 256}, {Kind: 257}, {Kind: 1<<32 + 1}, {Kind: 1<<40 + 2, A: 1},
		{Kind: math.MaxInt}, {Kind: math.MinInt}, {Kind: math.MinInt + 1}, {Kind: -255},
		{Kind: pred.All, A: 1}, {Kind: pred.All, B: 1}, {Kind: pred.All, Parts: some},
		{Kind: pred.XMost, A: 4, B: 1}, {Kind: pred.XMost, A: 4, Parts: some}, {Kind: pred.XMost, B: top},
		{Kind: pred.VMost, A: 4, B: 1}, {Kind: pred.VMost, A: 4, Parts: some}, {Kind: pred.VMost, B: top},
		{Kind: pred.VMod}, {Kind: pred.VMod, A: 3, B: 3}, {Kind: pred.VMod, A: 3, B: 4}, {Kind: pred.VMod, B: 1},
		{Kind: pred.VMod, A: top, B: top}, {Kind: pred.VMod, A: 1 << 63, B: top}, {Kind: pred.VMod, A: 3, B: 1, Parts: some},
		{Kind: pred.Not}, {Kind: pred.Not, Parts: []pred.Expr{}}, {Kind: pred.Not, Parts: alls(2)},
		{Kind: pred.Not, A: 1, Parts: some}, {Kind: pred.Not, B: 1, Parts: some},
		{Kind: pred.And, A: 1}, {Kind: pred.And, B: 1}, {Kind: pred.And, A: 1, Parts: some},
		{Kind: pred.Or, A: 1}, {Kind: pred.Or, B: 1}, {Kind: pred.Or, B: 1, Parts: some},
		nots(8, all()), nots(8, and()), nots(100, all()), and(alls(32)...), or(alls(32)...), and(alls(1000)...),
		and(and(alls(15)...), or(alls(16)...)), not(or(alls(31)...)),
	}
	for _, p := range l[:len(l):len(l)] {
		l = append(l, not(p), and(all(), p), or(p, all()), and(not(or(all(), p))))
	}
	return l
}
