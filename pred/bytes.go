package pred

import (
	"alibi/api"
	"alibi/varint"
)

// Put is how a predicate stands.
func Put(p Expr) []byte {
	if !Right(p) {
		return nil
	}
	return stand(nil, p)
}

// Take is the predicate that stands there.
func Take(b []byte, at int) (Expr, int, api.Errno) {
	if at < 0 {
		return Expr{}, 0, api.ErrPred
	}
	t := taker{b: b, at: at}
	p := t.node(1)
	if t.bad || !Right(p) {
		return Expr{}, 0, api.ErrPred
	}
	return p, t.at, api.OK
}

// Parse is the predicate as which all of b stands.
func Parse(b []byte) (Expr, api.Errno) {
	p, next, e := Take(b, 0)
	if e != api.OK || next != len(b) {
		return Expr{}, api.ErrPred
	}
	return p, api.OK
}

// stand puts a node's bytes, and those of its parts, behind b.
func stand(b []byte, p Expr) []byte {
	k, _ := kindOf(p.Kind)
	b = append(b, byte(p.Kind))
	for _, n := range k.numbers(&p) {
		b = append(b, varint.Put(*n)...)
	}
	if k.parts == many {
		b = append(b, varint.Put(uint64(len(p.Parts)))...)
	}
	for _, q := range p.Parts {
		b = stand(b, q)
	}
	return b
}

// taker takes nodes from bytes. What it tells when it has become bad counts for nothing.
type taker struct {
	room
	b   []byte
	at  int
	bad bool
}

// node takes a node, so many levels deep, with its parts.
func (t *taker) node(deep int) Expr {
	p := Expr{Kind: t.kind()}
	k, ok := kindOf(p.Kind)
	if !ok || !t.enter(deep) {
		t.bad = true
		return Expr{}
	}
	for _, n := range k.numbers(&p) {
		*n = t.number()
	}
	for n := t.many(k.parts); n > 0 && !t.bad; n-- {
		p.Parts = append(p.Parts, t.node(deep+1))
	}
	return p
}

// kind takes a kind's byte; 0, which is no kind, where the bytes end.
func (t *taker) kind() int {
	if t.at >= len(t.b) {
		return 0
	}
	t.at++
	return int(t.b[t.at-1])
}

// many takes how many parts there are, of a kind that has so many.
func (t *taker) many(parts int) uint64 {
	if parts == many {
		return t.number()
	}
	return uint64(parts)
}

// number takes a number.
func (t *taker) number() uint64 {
	v, next, e := varint.Get(t.b, t.at)
	if e != api.OK {
		t.bad = true
		return 0
	}
	t.at = next
	return v
}
