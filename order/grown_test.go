package order_test

import (
	"math/rand/v2"
	"slices"

	"alibi/api"
	"alibi/pred"
	"alibi/record"
	"alibi/shape"
)

// pick is one of a list.
func pick[V any](r *rand.Rand, l ...V) V { return l[r.IntN(len(l))] }

// grower makes well-formed traces by chance; the same ones each time.
type grower struct {
	*rand.Rand
	shape.Machine
	had []record.Record
}

// grown is a well-formed trace of so many records.
func grown(many int, seed uint64) []record.Record {
	g := grower{Rand: rand.New(rand.NewPCG(11, seed))}
	for len(g.had) < many {
		if r := g.next(); g.Step(r) == api.Right {
			g.had = append(g.had, r)
		}
	}
	return g.had
}

// next is a record that may offend, or not: mostly one that modifies, or a Commit.
func (g *grower) next() record.Record {
	if open := len(g.Open()); open < 5 && g.IntN(1+4*open) == 0 {
		return record.Record{Kind: record.Begin, T: g.fresh()}
	}
	r := record.Record{Kind: pick(g.Rand, 2, 3, 3, 3, 3, 3, 4, 4, 5, 6, 6, 6, 7), T: 1, X: pick[uint64](g.Rand, 0, 1, 2, 3, 1<<32, 1<<32+1, top)}
	if open := g.Open(); len(open) > 0 {
		r.T = pick(g.Rand, open...)
	}
	switch r.Kind {
	case record.Read:
		r.V, _ = g.Latest(r.T, r.X)
	case record.Write:
		r.Value = pick[uint64](g.Rand, 0, 1, top)
	case record.Pred:
		r.X, r.P, r.Entries = 0, pred.Expr{Kind: pred.All}, g.entries(r.T)
	case record.Commit, record.Abort:
		r.X = 0
	}
	return r
}

// fresh is a name that no transaction has yet.
func (g *grower) fresh() uint64 {
	for {
		t := pick(g.Rand, append(names()[1:], g.Uint64())...)
		if !slices.Contains(begun(g.had), t) {
			return t
		}
	}
}

// entries name all of an open transaction's own, and 5, which nobody modifies.
func (g *grower) entries(t uint64) []record.Entry {
	named := append(g.Objects(t), 5)
	slices.Sort(named)
	var l []record.Entry
	for _, x := range named {
		v, _ := g.Latest(t, x)
		l = append(l, record.Entry{X: x, V: v, M: g.Matches(pred.Expr{Kind: pred.All}, x, v)})
	}
	return l
}
