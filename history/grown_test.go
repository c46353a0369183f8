package history_test

import (
	"math/rand/v2"

	"alibi/api"
	"alibi/pred"
	"alibi/record"
	"alibi/shape"
)

// pick is one of a list.
func pick[V any](r *rand.Rand, l ...V) V { return l[r.IntN(len(l))] }

// grower makes well-formed traces by chance; the same ones each time.
type grower struct {
	*rand.Rand
	shape.Machine
	had []record.Record
}

// grown is a well-formed trace of so many records.
func grown(many int, seed uint64) []record.Record {
	g := grower{Rand: rand.New(rand.NewPCG(10, seed))}
	for len(g.had) < many {
		if r := g.next(); g.Step(r) == api.Right {
			g.had = append(g.had, r)
		}
	}
	return g.had
}

// next is a record that may offend, or not.
func (g *grower) next() record.Record {
	if open := len(g.Open()); open < 4 && g.IntN(1+5*open) == 0 {
		return record.Record{Kind: record.Begin, T: g.fresh()}
	}
	r := record.Record{Kind: pick(g.Rand, 2, 2, 2, 3, 3, 3, 3, 4, 4, 5, 5, 6, 6, 7), T: 1}
	if open := g.Open(); len(open) > 0 {
		r.T = pick(g.Rand, open...)
	}
	switch r.Kind {
	case record.Read:
		r.X = g.object()
		r.V = g.version(r.T, r.X)
	case record.Write:
		r.X, r.Value = g.object(), pick[uint64](g.Rand, 0, 1, 2, 3, 1<<63, top)
	case record.Delete:
		r.X = g.object()
	case record.Pred:
		r.P = pick(g.Rand, pred.Expr{Kind: pred.All}, pred.Expr{Kind: pred.VMost, A: 2}, pred.Turn(pred.Expr{Kind: pred.XMost, A: 1}), pred.Both())
		r.Entries = g.entries(r)
	}
	return r
}

// fresh is a name that no transaction has yet.
func (g *grower) fresh() uint64 {
	for i := range 1000 {
		t := uint64(1000 + i)
		if i < 20 {
			t = pick(g.Rand, names()[1:]...)
		}
		if place(g.had, t, record.Begin) == len(g.had) {
			return t
		}
	}
	return 1
}

// object is never the 5 and the 77, which objects() has, too.
func (g *grower) object() uint64 { return pick[uint64](g.Rand, 0, 1, 2, 3, 1<<32, 1<<32+1, top) }

// version is the transaction's own latest one, if there is one, else one that is there.
func (g *grower) version(t, x uint64) record.Version {
	if own, ok := g.Latest(t, x); ok {
		return own
	}
	w := pick(g.Rand, names()...)
	if last, ok := g.Latest(w, x); ok {
		return version(w, 1+g.Uint64N(last.N))
	}
	return record.Version{}
}

// entries are those that a Pred may have.
func (g *grower) entries(r record.Record) []record.Entry {
	var l []record.Entry
	for _, x := range []uint64{0, 1, 2, 3, 1 << 32, 1<<32 + 1, top} {
		if _, own := g.Latest(r.T, x); !own && g.IntN(2) == 0 {
			continue
		}
		v := g.version(r.T, x)
		l = append(l, record.Entry{X: x, V: v, M: g.Matches(r.P, x, v)})
	}
	return l
}
