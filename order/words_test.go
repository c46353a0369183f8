package order_test

import (
	"math"
	"slices"
	"strings"
	"testing"

	"alibi/api"
	"alibi/history"
	"alibi/order"
	"alibi/record"
)

// What the tests have of orders' words: records, and what they come to by the words of the chapters alone.

const top = uint64(math.MaxUint64)

func version(w, n uint64) record.Version { return record.Version{W: w, N: n} }

// lines are the records of texts, with semicolons between.
func lines(t *testing.T, s string) []record.Record {
	t.Helper()
	var l []record.Record
	for _, text := range strings.Split(s, "; ") {
		r, e := record.Line(text)
		if e != api.OK {
			t.Fatalf("%q: %d", text, e)
		}
		l = append(l, r)
	}
	return l
}

// telling are records as lines.
func telling(l []record.Record) string {
	var s []string
	for _, r := range l {
		s = append(s, record.Text(r))
	}
	return strings.Join(s, "; ")
}

// past is the history of records, which must be well-formed.
func past(t *testing.T, l ...record.Record) *history.History {
	t.Helper()
	h, at, rule := history.New(l...)
	if rule != api.Right {
		t.Fatalf("%s: %d, %d", telling(l), at, rule)
	}
	return h
}

// made is the order of records, which must be well-formed.
func made(t *testing.T, l ...record.Record) *order.Order {
	t.Helper()
	o := order.Of(past(t, l...))
	if o == nil {
		t.Fatalf("%s: nil", telling(l))
	}
	return o
}

// told is the order of texts.
func told(t *testing.T, s string) *order.Order {
	t.Helper()
	return made(t, lines(t, s)...)
}

// put is a version that is installed by the words: by whom, and where that one ended.
type put struct {
	v           record.Version
	writer, end int
}

// many is how many modifications of x by t there are.
func many(l []record.Record, t, x uint64) uint64 {
	n := uint64(0)
	for _, r := range l {
		if (r.Kind == record.Write || r.Kind == record.Delete) && r.T == t && r.X == x {
			n++
		}
	}
	return n
}

// putByWords are the last modifications of x by each that has a Commit, by where that stands.
func putByWords(l []record.Record, x uint64) []put {
	var out []put
	number := 0
	for pos, r := range l {
		if r.Kind != record.Commit {
			continue
		}
		if n := many(l, r.T, x); n > 0 {
			out = append(out, put{version(r.T, n), number, pos})
		}
		number++
	}
	return out
}

// orderByWords is unborn, and those that are kept.
func orderByWords(l []put, kept func(put) bool) []record.Version {
	out := []record.Version{{}}
	for _, p := range l {
		if kept(p) {
			out = append(out, p.v)
		}
	}
	return out
}

func anyPut(put) bool { return true }

func writersByWords(l []put) []int {
	var out []int
	for _, p := range l {
		out = append(out, p.writer)
	}
	return out
}

// objectsByWords are those that the records write or delete, and of which a version is installed.
func objectsByWords(l []record.Record) []uint64 {
	var out []uint64
	for _, r := range l {
		if (r.Kind == record.Write || r.Kind == record.Delete) && len(putByWords(l, r.X)) > 0 {
			out = append(out, r.X)
		}
	}
	slices.Sort(out)
	return slices.Compact(out)
}

// names and objects are those that grown traces name, and some that they don't.
func names() []uint64   { return []uint64{0, 1, 2, 3, 4, 1 << 32, 1<<32 + 1, 77, top} }
func objects() []uint64 { return []uint64{0, 1, 2, 3, 1 << 32, 1<<32 + 1, 5, 77, top} }

// asked are versions of a trace's objects, and such as are none's.
func asked(l []record.Record) []record.Version {
	out := []record.Version{{}, version(0, 1), version(0, top), version(top, top), version(1<<63, 0)}
	for _, w := range append(names(), begun(l)...) {
		for _, n := range []uint64{0, 1, 2, 3, 4, 1<<32 + 1, top} {
			out = append(out, version(w, n))
		}
	}
	return out
}

// begun are the names of a trace's transactions.
func begun(l []record.Record) []uint64 {
	var out []uint64
	for _, r := range l {
		if r.Kind == record.Begin {
			out = append(out, r.T)
		}
	}
	return out
}

// positions are all of a trace, and such as are none's.
func positions(l []record.Record) []int {
	all := []int{math.MinInt, -1 << 32, -2, -1, len(l), len(l) + 1, 2*len(l) + 1, 1 << 32, math.MaxInt}
	for pos := range l {
		all = append(all, pos)
	}
	return all
}

// checkOrder holds all that an order tells against what its records come to by the words.
func checkOrder(t *testing.T, o *order.Order, l []record.Record) {
	t.Helper()
	if got, want := o.Objects(), objectsByWords(l); !slices.Equal(got, want) {
		t.Fatalf("%s: Objects: %v, not %v", telling(l), got, want)
	}
	for _, x := range objects() {
		all := putByWords(l, x)
		checkRow(t, o, l, x, all)
		for _, v := range asked(l) {
			checkVersion(t, o, l, x, v, all)
		}
	}
}

// checkRow does so with what is told of an object.
func checkRow(t *testing.T, o *order.Order, l []record.Record, x uint64, all []put) {
	t.Helper()
	want := orderByWords(all, anyPut)
	if got := o.Versions(x); !slices.Equal(got, want) {
		t.Fatalf("%s: Versions(%d): %v, not %v", telling(l), x, got, want)
	}
	if got := o.Writers(x); !slices.Equal(got, writersByWords(all)) {
		t.Fatalf("%s: Writers(%d): %v", telling(l), x, got)
	}
	if o.Len(x) != len(all) || o.Last(x) != want[len(all)] {
		t.Fatalf("%s: %d: Len %d, Last %v", telling(l), x, o.Len(x), o.Last(x))
	}
	for _, pos := range positions(l) {
		below := orderByWords(all, func(p put) bool { return p.end < pos })
		if got := o.Before(x, pos); got != below[len(below)-1] {
			t.Fatalf("%s: Before(%d, %d): %v", telling(l), x, pos, got)
		}
	}
	for _, n := range positions(l) { // no writer's number is above all positions
		but := orderByWords(all, func(p put) bool { return p.writer != n })
		if got := o.Without(x, n); !slices.Equal(got, but) {
			t.Fatalf("%s: Without(%d, %d): %v, not %v", telling(l), x, n, got, but)
		}
	}
}

// checkVersion does so with what is told of one version of it.
func checkVersion(t *testing.T, o *order.Order, l []record.Record, x uint64, v record.Version, all []put) {
	t.Helper()
	place := slices.Index(orderByWords(all, anyPut), v)
	got, ok := o.Place(x, v)
	if ok != (place >= 0) || got != max(place, 0) {
		t.Fatalf("%s: Place(%d, %s): %d, %v", telling(l), x, v.Text(), got, ok)
	}
	var at, behind put
	var ahead record.Version
	if place >= 1 {
		at = all[place-1]
		ahead = orderByWords(all, anyPut)[place-1]
	}
	if place >= 0 && place < len(all) {
		behind = all[place]
	}
	w, ok := o.Installed(x, v)
	if ok != (place >= 1) || w != at.writer {
		t.Fatalf("%s: Installed(%d, %s): %d, %v", telling(l), x, v.Text(), w, ok)
	}
	next, w, ok := o.Next(x, v)
	if ok != (place >= 0 && place < len(all)) || next != behind.v || w != behind.writer {
		t.Fatalf("%s: Next(%d, %s): %v, %d, %v", telling(l), x, v.Text(), next, w, ok)
	}
	a, ok := o.Ahead(x, v)
	if ok != (place >= 1) || a != ahead {
		t.Fatalf("%s: Ahead(%d, %s): %v, %v", telling(l), x, v.Text(), a, ok)
	}
}
