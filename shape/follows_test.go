package shape_test

import (
	"slices"
	"testing"

	"alibi/api"
	"alibi/pred"
	"alibi/record"
	"alibi/shape"
)

// renamed is a trace with its transactions, and its objects, named otherwise.
func renamed(l []record.Record, name, object func(uint64) uint64) []record.Record {
	at := func(v record.Version) record.Version {
		if v == (record.Version{}) {
			return v
		}
		return version(name(v.W), v.N)
	}
	var out []record.Record
	for _, r := range l {
		r = record.Copy(r)
		r.T, r.V = name(r.T), at(r.V)
		if r.Kind == record.Read || r.Kind == record.Write || r.Kind == record.Delete {
			r.X = object(r.X)
		}
		for i, e := range r.Entries {
			r.Entries[i] = record.Entry{X: object(e.X), V: at(e.V), M: e.M}
		}
		out = append(out, r)
	}
	return out
}

// asIs has the same name.
func asIs(n uint64) uint64 { return n }

// namesObject tells whether a predicate does.
func namesObject(p pred.Expr) bool {
	return p.Kind == pred.XMost || slices.ContainsFunc(p.Parts, namesObject)
}

// P9.5: a beginning of what is well-formed is well-formed.
func TestBeginnings(t *testing.T) {
	for seed := range uint64(60) {
		l := grown(60, 1000+seed)
		for n := range len(l) + 1 {
			if at, rule := shape.Check(l[:n]...); at != n || rule != api.Right {
				t.Fatalf("%s: %d at %d", telling(l[:n]), rule, at)
			}
		}
	}
}

// P9.5: with other names of transactions it is well-formed, or not, as before.
func TestOtherTransactions(t *testing.T) {
	for seed := range uint64(60) {
		l := grown(60, 2000+seed)
		for i, name := range []func(uint64) uint64{
			func(t uint64) uint64 { return 7919 * t }, // odd, so that none becomes another one's, and only 0 is 0
			func(t uint64) uint64 { return -t },
			func(t uint64) uint64 { return t<<32 | t>>32 },
		} {
			if at, rule := shape.Check(renamed(l, name, asIs)...); at != len(l) || rule != api.Right {
				t.Fatalf("%d: %s: %d at %d", i, telling(renamed(l, name, asIs)), rule, at)
			}
		}
		r := grow(seed).next() // behind it, that may offend
		at, rule := shape.Check(append(l, r)...)
		if record.Right(r) {
			if n, other := shape.Check(renamed(append(l, r), func(t uint64) uint64 { return -t }, asIs)...); n != at || other != rule {
				t.Errorf("%s; %s: %d at %d", telling(l), record.Text(r), other, n)
			}
		}
	}
}

// P9.5: and with other names of objects, that rise alike, where no predicate names one.
func TestOtherObjects(t *testing.T) {
	for seed := range uint64(60) {
		l := slices.DeleteFunc(grown(60, 3000+seed), func(r record.Record) bool { return namesObject(r.P) })
		for i, object := range []func(uint64) uint64{
			func(x uint64) uint64 { return min(x, 1<<33) + 1000 }, // of objects() each one stays above the one ahead
			func(x uint64) uint64 { return top - 1<<33 + min(x, 1<<33) },
		} {
			if at, rule := shape.Check(renamed(l, asIs, object)...); at != len(l) || rule != api.Right {
				t.Fatalf("%d: %s: %d at %d", i, telling(renamed(l, asIs, object)), rule, at)
			}
		}
	}
}

// P9.5: behind it an Abort of each open transaction is well-formed, in any order, and then none is open.
func TestAbortsBehind(t *testing.T) {
	for seed := range uint64(60) {
		l := grown(40, 4000+seed)
		m := machine(t, l...)
		open := m.Open()
		if seed%2 == 1 {
			slices.Reverse(open)
		}
		for _, name := range open {
			l = append(l, record.Record{Kind: record.Abort, T: name})
		}
		whole := machine(t, l...)
		if at, rule := shape.Check(l...); at != len(l) || rule != api.Right || len(whole.Open()) != 0 {
			t.Fatalf("%s: %d at %d, %v", telling(l), rule, at, whole.Open())
		}
	}
}

// withRoom is the same record, with something behind its lists' lengths.
func withRoom(r record.Record) record.Record {
	r = record.Copy(r)
	r.Entries = append(r.Entries, record.Entry{X: 1, V: version(2, 3), M: true})[:len(r.Entries)]
	r.P.Parts = append(r.P.Parts, pred.Expr{Kind: 77})[:len(r.P.Parts)]
	return r
}

// P9.4: what is handed in is only read, what lies behind its lists' lengths too.
func TestOnlyRead(t *testing.T) {
	for seed := range uint64(20) {
		l := grown(50, 5000+seed)
		var given []record.Record
		for _, r := range l {
			given = append(given, withRoom(r))
		}
		given = append(given, record.Record{Kind: 77})[:len(l)]
		shape.Check(given...)
		m := machine(t, given...)
		for i, r := range given {
			m.Step(r)
			m.Matches(r.P, r.X, r.V)
			behind, part := r.Entries[:len(r.Entries)+1], r.P.Parts[:len(r.P.Parts)+1]
			if !record.Same(r, l[i]) || behind[len(r.Entries)] != (record.Entry{X: 1, V: version(2, 3), M: true}) || part[len(r.P.Parts)].Kind != 77 {
				t.Fatalf("%d: %+v", i, r)
			}
		}
		if given[:len(l)+1][len(l)].Kind != 77 {
			t.Fatal("behind the records")
		}
	}
}

// P9.4: what was handed in is not kept, and what is answered is new memory.
func TestNewMemory(t *testing.T) {
	for seed := range uint64(20) {
		l := grown(50, 6000+seed)
		var m shape.Machine
		for _, r := range l {
			given := withRoom(r)
			m.Step(given)
			clear(given.Entries)
			clear(given.P.Parts[:len(given.P.Parts)+1])
			spoil(m.Open())
			spoil(m.Objects(r.T))
		}
		checkMachine(t, &m, l)
	}
}

// spoil changes all of a list, and what lies behind it.
func spoil(l []uint64) {
	l = l[:cap(l)]
	for i := range l {
		l[i] = 12345
	}
}
