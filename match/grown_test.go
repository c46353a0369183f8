package match_test

import (
	"math/rand/v2"
	"slices"

	"alibi/api"
	"alibi/record"
	"alibi/shape"
)

// pick is one of a list.
func pick[V any](r *rand.Rand, l ...V) V { return l[r.IntN(len(l))] }

// grower makes well-formed traces by chance; the same ones each time.
type grower struct {
	*rand.Rand
	shape.Machine
	had []record.Record
}

// grown is a well-formed trace of so many records.
func grown(many int, seed uint64) []record.Record {
	g := grower{Rand: rand.New(rand.NewPCG(12, seed))}
	for len(g.had) < many {
		if r := g.next(); g.Step(r) == api.Right {
			g.had = append(g.had, r)
		}
	}
	return g.had
}

// next is a record that may offend, or not: mostly one that modifies, a Pred, or a Commit.
func (g *grower) next() record.Record {
	if open := len(g.Open()); open < 5 && g.IntN(1+4*open) == 0 {
		return record.Record{Kind: record.Begin, T: g.fresh()}
	}
	r := record.Record{Kind: pick(g.Rand, 2, 3, 3, 3, 3, 4, 4, 5, 5, 6, 6, 6, 7), T: 1, X: g.object()}
	if open := g.Open(); len(open) > 0 {
		r.T = pick(g.Rand, open...)
	}
	switch r.Kind {
	case record.Read:
		r.V = g.version(r.T, r.X)
	case record.Write:
		r.Value = pick[uint64](g.Rand, 0, 1, 2, 3, 4, 1<<63, top)
	case record.Pred:
		r.X, r.P = 0, pick(g.Rand, predicates()[:10]...)
		r.Entries = g.entries(r)
	case record.Commit, record.Abort:
		r.X = 0
	}
	return r
}

// object is never the 5 and the 77, which objects() has, too.
func (g *grower) object() uint64 { return pick[uint64](g.Rand, 0, 1, 2, 3, 1<<32, 1<<32+1, top) }

// fresh is a name that no transaction has yet.
func (g *grower) fresh() uint64 {
	for {
		t := pick[uint64](g.Rand, 1, 2, 3, 4, 1<<32, 1<<32+1, top, g.Uint64())
		if !slices.Contains(begun(g.had), t) {
			return t
		}
	}
}

// version is the transaction's own latest one, if there is one, else one that is there.
func (g *grower) version(t, x uint64) record.Version {
	if own, ok := g.Latest(t, x); ok {
		return own
	}
	if all := begun(g.had); len(all) > 0 {
		w := pick(g.Rand, all...)
		if last, ok := g.Latest(w, x); ok {
			return version(w, 1+g.Uint64N(last.N))
		}
	}
	return record.Version{}
}

// entries are those that a Pred may have.
func (g *grower) entries(r record.Record) []record.Entry {
	var l []record.Entry
	few := pick(g.Rand, 0, 2, 2, 5)
	for _, x := range []uint64{0, 1, 2, 3, 1 << 32, 1<<32 + 1, top} {
		if _, own := g.Latest(r.T, x); !own && g.IntN(5) >= few {
			continue
		}
		v := g.version(r.T, x)
		l = append(l, record.Entry{X: x, V: v, M: g.Matches(r.P, x, v)})
	}
	return l
}
