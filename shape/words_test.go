package shape_test

import (
	"math"
	"slices"
	"strings"
	"testing"

	"alibi/api"
	"alibi/pred"
	"alibi/record"
	"alibi/shape"
)

// What the tests have of traces' words: records, and what they come to by the words of the chapter alone.

const top = uint64(math.MaxUint64)

func all() pred.Expr { return pred.Expr{Kind: pred.All} }

func version(w, n uint64) record.Version { return record.Version{W: w, N: n} }

// line is the record of a text.
func line(t *testing.T, s string) record.Record {
	t.Helper()
	r, e := record.Line(s)
	if e != api.OK {
		t.Fatalf("%q: %d", s, e)
	}
	return r
}

// lines are the records of texts, with semicolons between.
func lines(t *testing.T, s string) []record.Record {
	t.Helper()
	var l []record.Record
	for _, text := range strings.Split(s, "; ") {
		l = append(l, line(t, text))
	}
	return l
}

// telling are records as lines; those that are not right as nothing.
func telling(l []record.Record) string {
	var s []string
	for _, r := range l {
		s = append(s, record.Text(r))
	}
	return strings.Join(s, "; ")
}

// machine is one that has had records, all of which it must take.
func machine(t *testing.T, l ...record.Record) *shape.Machine {
	t.Helper()
	m := new(shape.Machine)
	for i, r := range l {
		if rule := m.Step(r); rule != api.Right {
			t.Fatalf("%d: %s: %d", i, record.Text(r), rule)
		}
	}
	return m
}

// has tells whether there is a record of t of one of these kinds.
func has(l []record.Record, t uint64, kinds ...int) bool {
	return slices.ContainsFunc(l, func(r record.Record) bool { return r.T == t && slices.Contains(kinds, r.Kind) })
}

// madeByWords are the versions of x that t made, from the first one on.
func madeByWords(l []record.Record, t, x uint64) []shape.Made {
	var made []shape.Made
	for _, r := range l {
		if r.T == t && r.X == x && r.Kind == record.Write {
			made = append(made, shape.Made{Value: r.Value})
		}
		if r.T == t && r.X == x && r.Kind == record.Delete {
			made = append(made, shape.Made{Dead: true})
		}
	}
	return made
}

// versionByWords is what a version is, and whether it was made.
func versionByWords(l []record.Record, x uint64, v record.Version) (shape.Made, bool) {
	for i, d := range madeByWords(l, v.W, x) {
		if uint64(i)+1 == v.N {
			return d, true
		}
	}
	return shape.Made{}, false
}

func thereByWords(l []record.Record, x uint64, v record.Version) bool {
	_, ok := versionByWords(l, x, v)
	return ok || v.W == 0 && v.N == 0
}

func matchesByWords(l []record.Record, p pred.Expr, x uint64, v record.Version) bool {
	d, ok := versionByWords(l, x, v)
	return ok && !d.Dead && pred.Holds(p, x, d.Value)
}

func latestByWords(l []record.Record, t, x uint64) (record.Version, bool) {
	n := len(madeByWords(l, t, x))
	if n == 0 {
		return record.Version{}, false
	}
	return version(t, uint64(n)), true
}

func openByWords(l []record.Record) []uint64 {
	var open []uint64
	for _, r := range l {
		if r.Kind == record.Begin && !has(l, r.T, record.Commit, record.Abort) {
			open = append(open, r.T)
		}
	}
	slices.Sort(open)
	return open
}

func objectsByWords(l []record.Record, t uint64) []uint64 {
	var objects []uint64
	for _, r := range l {
		if r.T == t && (r.Kind == record.Write || r.Kind == record.Delete) {
			objects = append(objects, r.X)
		}
	}
	slices.Sort(objects)
	return slices.Compact(objects)
}

// entryOffends tells which rules of entries a Pred offends.
func entryOffends(l []record.Record, r record.Record) map[api.Rule]bool {
	is := map[api.Rule]bool{}
	for i, e := range r.Entries {
		is[api.Rise] = is[api.Rise] || i > 0 && !(r.Entries[i-1].X < e.X)
		is[api.NoEntry] = is[api.NoEntry] || !thereByWords(l, e.X, e.V)
		is[api.Match] = is[api.Match] || e.M != matchesByWords(l, r.P, e.X, e.V)
	}
	for _, x := range objectsByWords(l, r.T) {
		own, _ := latestByWords(l, r.T, x)
		found := false
		for _, e := range r.Entries {
			found = found || e.X == x && e.V == own
		}
		is[api.OwnEntry] = is[api.OwnEntry] || !found
	}
	return is
}

// offendsByWords tells of each rule whether a record, behind others, offends it.
func offendsByWords(l []record.Record, r record.Record) map[api.Rule]bool {
	if r.Kind < 1 || r.Kind > 7 {
		return map[api.Rule]bool{api.Kind: true}
	}
	if !record.Right(r) {
		return map[api.Rule]bool{api.Payload: true}
	}
	is := map[api.Rule]bool{}
	if r.Kind == record.Pred {
		is = entryOffends(l, r)
	}
	if r.Kind == record.Read {
		own, ok := latestByWords(l, r.T, r.X)
		is[api.NoVersion] = !thereByWords(l, r.X, r.V)
		is[api.NotOwn] = ok && own != r.V
	}
	begun := has(l, r.T, record.Begin)
	is[api.Zero] = r.T == 0
	is[api.Begun] = r.Kind == record.Begin && begun
	is[api.Absent] = r.Kind != record.Begin && !begun
	is[api.Ended] = has(l, r.T, record.Commit, record.Abort)
	return is
}

// ruleByWords is the lowest one that a record, behind others, offends.
func ruleByWords(l []record.Record, r record.Record) api.Rule {
	is := offendsByWords(l, r)
	for rule := api.Cut; rule <= api.Long; rule++ {
		if is[rule] {
			return rule
		}
	}
	return api.Right
}

// checkMachine holds all that a machine tells against what its records come to by the words.
func checkMachine(t *testing.T, m *shape.Machine, l []record.Record) {
	t.Helper()
	if m.Len() != len(l) || !slices.Equal(m.Open(), openByWords(l)) {
		t.Fatalf("%s: %d, %v", telling(l), m.Len(), m.Open())
	}
	for _, name := range transactions() {
		if got := m.Objects(name); !slices.Equal(got, objectsByWords(l, name)) {
			t.Fatalf("%s: Objects(%d): %v", telling(l), name, got)
		}
		for _, x := range objects() {
			v, ok := m.Latest(name, x)
			if want, is := latestByWords(l, name, x); v != want || ok != is {
				t.Fatalf("%s: Latest(%d, %d): %v, %v", telling(l), name, x, v, ok)
			}
			for _, n := range []uint64{0, 1, 2, 3, v.N, v.N + 1, 1 << 32, 1<<32 + 1, 1 << 63, top} {
				checkVersion(t, m, l, x, version(name, n))
			}
		}
	}
}

// checkVersion does so with one version.
func checkVersion(t *testing.T, m *shape.Machine, l []record.Record, x uint64, v record.Version) {
	t.Helper()
	want, ok := versionByWords(l, x, v)
	e := api.ErrNone
	if ok {
		e = api.OK
	}
	if d, got := m.Made(x, v); d != want || got != e {
		t.Fatalf("%s: Made(%d, %s): %v, %d", telling(l), x, v.Text(), d, got)
	}
	if m.There(x, v) != thereByWords(l, x, v) {
		t.Fatalf("%s: There(%d, %s)", telling(l), x, v.Text())
	}
	for i, p := range asked() {
		if m.Matches(p, x, v) != matchesByWords(l, p, x, v) {
			t.Fatalf("%s: %d: Matches(%d, %s)", telling(l), i, x, v.Text())
		}
	}
}

// transactions and objects are those that grown traces name, and some that they don't.
func transactions() []uint64 { return []uint64{0, 1, 2, 3, 4, 1 << 32, 77, top} }
func objects() []uint64      { return []uint64{0, 1, 2, 1 << 32, 9, top} }

// asked are predicates of all kinds, and some that are not right.
func asked() []pred.Expr {
	most := pred.Expr{Kind: pred.VMost, A: 1}
	object := pred.Expr{Kind: pred.XMost, A: 1}
	odd := pred.Expr{Kind: pred.VMod, A: 2, B: 1}
	return []pred.Expr{
		all(), most, object, odd, pred.Turn(all()), pred.Turn(odd), pred.Both(object, odd), pred.Both(), {Kind: pred.Or}, {Kind: pred.Or, Parts: []pred.Expr{object, most}},
		{}, {Kind: 8}, {Kind: pred.VMod}, {Kind: pred.All, A: 1}, pred.Both(all(), pred.Expr{}), pred.Turn(pred.Expr{}), itself(),
	}
}

// itself is a predicate that has itself as a part.
func itself() pred.Expr {
	l := make([]pred.Expr, 1)
	l[0] = pred.Expr{Kind: pred.Not, Parts: l}
	return l[0]
}
