package shape_test

import (
	"math/rand/v2"

	"alibi/api"
	"alibi/pred"
	"alibi/record"
)

// pick is one of a list.
func pick[V any](r *rand.Rand, l ...V) V { return l[r.IntN(len(l))] }

// grower makes records by chance, behind those that it has; the same ones each time.
type grower struct {
	*rand.Rand
	had []record.Record
}

// grow is one whose chances come of a seed.
func grow(seed uint64) *grower { return &grower{Rand: rand.New(rand.NewPCG(9, seed))} }

// grown is a well-formed trace of so many records.
func grown(many int, seed uint64) []record.Record {
	g := grow(seed)
	for len(g.had) < many {
		if r := g.next(); ruleByWords(g.had, r) == api.Right {
			g.had = append(g.had, r)
		}
	}
	return g.had
}

// next is a record that may offend, or not.
func (g *grower) next() record.Record {
	if g.IntN(50) == 0 {
		return pick(g.Rand, spoilt()...)
	}
	if open := len(openByWords(g.had)); open < 4 && g.IntN(1+4*open) == 0 {
		return record.Record{Kind: record.Begin, T: g.fresh()}
	}
	r := record.Record{Kind: pick(g.Rand, 1, 2, 2, 2, 3, 3, 3, 3, 4, 4, 5, 5, 5, 5, 6, 7), T: g.name()}
	switch r.Kind {
	case record.Read:
		r.X = g.object()
		r.V = g.version(r.T, r.X)
	case record.Write:
		r.X, r.Value = g.object(), pick[uint64](g.Rand, 0, 1, 2, 3, 1<<63, top)
	case record.Delete:
		r.X = g.object()
	case record.Pred:
		r.P = asked()[g.IntN(10)]
		r.Entries = g.entries(r)
	}
	return r
}

// fresh is a name that no transaction has yet.
func (g *grower) fresh() uint64 {
	for _, t := range transactions() {
		if t > 0 && !has(g.had, t, record.Begin) {
			return t
		}
	}
	return 1000 + uint64(len(g.had))
}

// name is mostly one of a transaction that is open.
func (g *grower) name() uint64 {
	if open := openByWords(g.had); len(open) > 0 && g.IntN(10) > 0 {
		return pick(g.Rand, open...)
	}
	return pick(g.Rand, transactions()...)
}

// object is never the 9, which objects() has, too.
func (g *grower) object() uint64 { return pick[uint64](g.Rand, 0, 1, 2, 1<<32, top) }

// version is mostly the transaction's own latest one, if there is one, else often one that is there.
func (g *grower) version(t, x uint64) record.Version {
	if own, ok := latestByWords(g.had, t, x); ok && g.IntN(5) > 0 {
		return own
	}
	w := pick(g.Rand, transactions()...)
	if n := len(madeByWords(g.had, w, x)); n > 0 && g.IntN(10) > 0 {
		return version(w, 1+g.Uint64N(uint64(n)))
	}
	return pick(g.Rand, record.Version{}, record.Version{}, record.Version{}, version(w, pick[uint64](g.Rand, 0, 1, 2, top)))
}

// entries are mostly those that a Pred may have.
func (g *grower) entries(r record.Record) []record.Entry {
	var l []record.Entry
	for _, x := range []uint64{0, 1, 2, 1 << 32, top} {
		_, own := latestByWords(g.had, r.T, x)
		if own && g.IntN(30) == 0 || !own && g.IntN(2) == 0 {
			continue
		}
		e := record.Entry{X: x, V: g.version(r.T, x)}
		e.M = matchesByWords(g.had, r.P, x, e.V) != (g.IntN(30) == 0)
		l = append(l, e)
	}
	if len(l) > 1 && g.IntN(10) == 0 {
		i := 1 + g.IntN(len(l)-1)
		l[i], l[i-1] = l[i-1], l[g.IntN(len(l))]
	}
	return l
}

// spoilt are records that are none's, or not right.
func spoilt() []record.Record {
	l := []record.Record{
		{}, {T: 1}, {Kind: 8, T: 1}, {Kind: -1, T: 1}, {Kind: 256, T: 1}, {Kind: 257, T: 1}, {Kind: 1<<32 + 1, T: 1}, {Kind: -1 << 63}, {Kind: 1<<63 - 1, T: 1},
	}
	parts := []record.Record{
		{X: 1}, {V: version(0, 1)}, {V: version(1, 0)}, {Value: 1}, {P: pred.Expr{A: 1}}, {P: all()}, {P: pred.Expr{Kind: 8}}, {P: itself()}, {Entries: []record.Entry{{}}},
	}
	for kind := record.Begin; kind <= record.Abort; kind++ {
		for _, r := range parts {
			r.Kind, r.T = kind, 1
			if !record.Right(r) {
				l = append(l, r)
			}
		}
	}
	return l
}
