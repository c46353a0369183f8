package match_test

import (
	"math"
	"slices"
	"strings"
	"testing"

	"alibi/api"
	"alibi/history"
	"alibi/match"
	"alibi/pred"
	"alibi/record"
)

// What the tests have of matches' words: records, and what they come to by the words of the chapters alone.

const top = uint64(math.MaxUint64)

func version(w, n uint64) record.Version { return record.Version{W: w, N: n} }

// lines are the records of texts, with semicolons between.
func lines(t *testing.T, s string) []record.Record {
	t.Helper()
	var l []record.Record
	for _, text := range strings.Split(s, "; ") {
		r, e := record.Line(text)
		if e != api.OK {
			t.Fatalf("%q: %d", text, e)
		}
		l = append(l, r)
	}
	return l
}

// telling are records as lines.
func telling(l []record.Record) string {
	var s []string
	for _, r := range l {
		s = append(s, record.Text(r))
	}
	return strings.Join(s, "; ")
}

// made is the history of records, which must be well-formed.
func made(t *testing.T, l ...record.Record) *history.History {
	t.Helper()
	h, at, rule := history.New(l...)
	if rule != api.Right {
		t.Fatalf("%s: %d, %d", telling(l), at, rule)
	}
	return h
}

// told is the history of texts.
func told(t *testing.T, s string) *history.History {
	t.Helper()
	return made(t, lines(t, s)...)
}

// asking is the predicate of a text.
func asking(t *testing.T, s string) pred.Expr {
	t.Helper()
	p, e := pred.Read(s)
	if e != api.OK {
		t.Fatalf("%q: %d", s, e)
	}
	return p
}

// modifies tells whether a record is a modification of x by t.
func modifies(r record.Record, t, x uint64) bool {
	return (r.Kind == record.Write || r.Kind == record.Delete) && r.T == t && r.X == x
}

// matchesByWords: the version is the N-th modification of x by W, that is a Write, and what is asked holds of x and its value.
func matchesByWords(l []record.Record, p pred.Expr, x uint64, v record.Version) bool {
	n := uint64(0)
	for _, r := range l {
		if !modifies(r, v.W, x) {
			continue
		}
		if n++; n == v.N {
			return r.Kind == record.Write && pred.Holds(p, x, r.Value)
		}
	}
	return false
}

// rowByWords is unborn, and the last modification of x by each that has a Commit, by where that stands, but own's.
func rowByWords(l []record.Record, p pred.Expr, x, own uint64) []match.Step {
	out := []match.Step{{Writer: -1}}
	number := 0
	for _, r := range l {
		if r.Kind != record.Commit {
			continue
		}
		n := uint64(0)
		for _, m := range l {
			if modifies(m, r.T, x) {
				n++
			}
		}
		if v := version(r.T, n); n > 0 && r.T != own {
			is, was := matchesByWords(l, p, x, v), matchesByWords(l, p, x, out[len(out)-1].V)
			out = append(out, match.Step{V: v, Writer: number, Matches: is, Changes: is && !was || was && !is})
		}
		number++
	}
	return out
}

// splitByWords parts those that change of a row.
func splitByWords(row []match.Step, v record.Version) (ahead, behind []match.Step, ok bool) {
	at := slices.IndexFunc(row, func(s match.Step) bool { return s.V == v })
	for i, s := range row {
		if at >= 0 && s.Changes && i <= at {
			ahead = append(ahead, s)
		}
		if at >= 0 && s.Changes && i > at {
			behind = append(behind, s)
		}
	}
	return ahead, behind, at >= 0
}

// setByWords goes over all objects that the records name.
func setByWords(l []record.Record, pos int) []history.Look {
	if pos < 0 || pos >= len(l) || l[pos].Kind != record.Pred {
		return nil
	}
	var out []history.Look
	for _, x := range objectsByWords(l) {
		k := history.Look{Pos: pos, Place: -1, T: l[pos].T, X: x, Pred: true}
		for place, e := range l[pos].Entries {
			if e.X == x {
				k.Place, k.V, k.M = place, e.V, e.M
			}
		}
		out = append(out, k)
	}
	return out
}

// objectsByWords are all that are read, written, deleted, or named by an entry.
func objectsByWords(l []record.Record) []uint64 {
	var out []uint64
	for _, r := range l {
		if r.Kind == record.Read || r.Kind == record.Write || r.Kind == record.Delete {
			out = append(out, r.X)
		}
		for _, e := range r.Entries {
			out = append(out, e.X)
		}
	}
	slices.Sort(out)
	return slices.Compact(out)
}

// objects are those that grown traces name, and some that they don't.
func objects() []uint64 { return []uint64{0, 1, 2, 3, 1 << 32, 1<<32 + 1, 5, 77, top} }

// begun are the names of a trace's transactions.
func begun(l []record.Record) []uint64 {
	var out []uint64
	for _, r := range l {
		if r.Kind == record.Begin {
			out = append(out, r.T)
		}
	}
	return out
}

// owners are those whose own may be left out, and such as are none's.
func owners(l []record.Record) []uint64 { return append(begun(l), 0, 77, 1<<40, top-1) }

// asked are versions of a trace's objects, and such as are none's.
func asked(l []record.Record) []record.Version {
	out := []record.Version{{}, version(0, 1), version(0, top), version(top, top), version(1<<63, 0)}
	for _, w := range append(begun(l), 77) {
		for _, n := range []uint64{0, 1, 2, 3, 4, 1<<32 + 1, top} {
			out = append(out, version(w, n))
		}
	}
	return out
}

// positions are all of a trace, and such as are none's.
func positions(l []record.Record) []int {
	all := []int{math.MinInt, -1 << 32, -2, -1, len(l), len(l) + 1, 2*len(l) + 1, 1 << 32, math.MaxInt}
	for pos := range l {
		all = append(all, pos)
	}
	return all
}

// predicates are such as ask nothing, of the object, of the value, of both, and some that are not right.
func predicates() []pred.Expr {
	odd := pred.Expr{Kind: pred.VMod, A: 2, B: 1}
	low := pred.Expr{Kind: pred.VMost, A: 2}
	few := pred.Expr{Kind: pred.XMost, A: 2}
	return []pred.Expr{
		{Kind: pred.All}, pred.Turn(pred.Expr{Kind: pred.All}), low, pred.Turn(low), odd, few, pred.Turn(few), pred.Both(), pred.Both(few, odd), {Kind: pred.Or, Parts: []pred.Expr{few, low}},
		{}, {Kind: 8}, {Kind: -1}, {Kind: pred.All, A: 1}, {Kind: pred.VMod}, {Kind: pred.Not}, {Kind: pred.Not, Parts: []pred.Expr{{}}},
	}
}

// checkObject holds what is told of an object's row against what the records come to by the words.
func checkObject(t *testing.T, h *history.History, l []record.Record, p pred.Expr, x, own uint64, versions []record.Version) {
	t.Helper()
	row := rowByWords(l, p, x, own)
	if got := match.Row(h, p, x, own); !slices.Equal(got, row) {
		t.Fatalf("%s: Row(%+v, %d, %d): %v, not %v", telling(l), p, x, own, got, row)
	}
	ahead, behind, _ := splitByWords(row, row[0].V)
	if got := match.Changes(row...); !slices.Equal(got, append(ahead, behind...)) {
		t.Fatalf("%s: Changes(%v): %v", telling(l), row, got)
	}
	for _, v := range versions {
		a, b, ok := match.Split(h, p, x, own, v)
		ahead, behind, is := splitByWords(row, v)
		if !slices.Equal(a, ahead) || !slices.Equal(b, behind) || ok != is {
			t.Fatalf("%s: Split(%+v, %d, %d, %s): %v, %v, %v, not %v, %v", telling(l), p, x, own, v.Text(), a, b, ok, ahead, behind)
		}
		if got, want := match.Holds(h, p, x, v), matchesByWords(l, p, x, v); got != want {
			t.Fatalf("%s: Holds(%+v, %d, %s): %v", telling(l), p, x, v.Text(), got)
		}
	}
}

// checkSets does so with version sets.
func checkSets(t *testing.T, h *history.History, l []record.Record) {
	t.Helper()
	for _, pos := range positions(l) {
		if got, want := match.Set(h, pos), setByWords(l, pos); !slices.Equal(got, want) {
			t.Fatalf("%s: Set(%d): %v, not %v", telling(l), pos, got, want)
		}
	}
}

// checkAll does so with all that is told of a history.
func checkAll(t *testing.T, h *history.History, l []record.Record) {
	t.Helper()
	checkSets(t, h, l)
	versions := asked(l)
	for _, x := range objects() {
		for i, p := range predicates() {
			all := owners(l)
			checkObject(t, h, l, p, x, all[i%len(all)], versions) // each owner, with some of the predicates
			checkObject(t, h, l, p, x, 0, versions[:1])
		}
		for _, own := range owners(l) {
			checkObject(t, h, l, pred.Expr{Kind: pred.VMod, A: 2}, x, own, versions[:1])
		}
	}
}
