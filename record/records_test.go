package record_test

import (
	"math"
	"math/rand/v2"
	"slices"
	"strconv"

	"alibi/pred"
	"alibi/record"
)

// What the tests have of records' words: records, and what they are by the words of the chapter alone.

const top = uint64(math.MaxUint64)

func all() pred.Expr           { return pred.Expr{Kind: pred.All} }
func xMost(a uint64) pred.Expr { return pred.Expr{Kind: pred.XMost, A: a} }

func not(p pred.Expr) pred.Expr { return pred.Expr{Kind: pred.Not, Parts: []pred.Expr{p}} }

func both(l ...pred.Expr) pred.Expr { return pred.Expr{Kind: pred.And, Parts: l} }

func version(w, n uint64) record.Version { return record.Version{W: w, N: n} }

func entry(x, w, n uint64, m bool) record.Entry {
	return record.Entry{X: x, V: version(w, n), M: m}
}

func begin(t uint64) record.Record  { return record.Record{Kind: record.Begin, T: t} }
func commit(t uint64) record.Record { return record.Record{Kind: record.Commit, T: t} }
func abort(t uint64) record.Record  { return record.Record{Kind: record.Abort, T: t} }

func read(t, x, w, n uint64) record.Record {
	return record.Record{Kind: record.Read, T: t, X: x, V: version(w, n)}
}

func write(t, x, v uint64) record.Record {
	return record.Record{Kind: record.Write, T: t, X: x, Value: v}
}

func erase(t, x uint64) record.Record { return record.Record{Kind: record.Delete, T: t, X: x} }

func ask(t uint64, p pred.Expr, l ...record.Entry) record.Record {
	return record.Record{Kind: record.Pred, T: t, P: p, Entries: l}
}

// sameByWords holds nil and empty lists for the same.
func sameByWords(a, b record.Record) bool {
	if a.Kind != b.Kind || a.T != b.T || a.X != b.X || a.V.W != b.V.W || a.V.N != b.V.N || a.Value != b.Value {
		return false
	}
	if len(a.Entries) != len(b.Entries) || !sameTree(a.P, b.P) {
		return false
	}
	for i, e := range a.Entries {
		if f := b.Entries[i]; e.X != f.X || e.V.W != f.V.W || e.V.N != f.V.N || e.M != f.M {
			return false
		}
	}
	return true
}

func sameTree(p, q pred.Expr) bool {
	if p.Kind != q.Kind || p.A != q.A || p.B != q.B || len(p.Parts) != len(q.Parts) {
		return false
	}
	for i := range p.Parts {
		if !sameTree(p.Parts[i], q.Parts[i]) {
			return false
		}
	}
	return true
}

// rightByWords leaves of a record what its kind names, and asks whether that is all of it.
func rightByWords(r record.Record) bool {
	switch r.Kind {
	case 1, 6, 7:
		return sameByWords(r, record.Record{Kind: r.Kind, T: r.T})
	case 2:
		return sameByWords(r, record.Record{Kind: 2, T: r.T, X: r.X, V: r.V})
	case 3:
		return sameByWords(r, record.Record{Kind: 3, T: r.T, X: r.X, Value: r.Value})
	case 4:
		return sameByWords(r, record.Record{Kind: 4, T: r.T, X: r.X})
	case 5:
		return sameByWords(r, record.Record{Kind: 5, T: r.T, P: r.P, Entries: r.Entries}) && pred.Right(r.P)
	}
	return false
}

// numbersByWords are numbers as they stand.
func numbersByWords(l ...uint64) []byte {
	var b []byte
	for _, v := range l {
		for ; v > 127; v /= 128 {
			b = append(b, byte(128+v%128))
		}
		b = append(b, byte(v))
	}
	return b
}

// payloadByWords is asked of right ones.
func payloadByWords(r record.Record) []byte {
	switch r.Kind {
	case 2:
		return numbersByWords(r.T, r.X, r.V.W, r.V.N)
	case 3:
		return numbersByWords(r.T, r.X, r.Value)
	case 4:
		return numbersByWords(r.T, r.X)
	case 5:
		p := pred.Put(r.P)
		b := slices.Concat(numbersByWords(r.T, uint64(len(p))), p, numbersByWords(uint64(len(r.Entries))))
		for _, e := range r.Entries {
			b = append(b, numbersByWords(e.X, e.V.W, e.V.N)...)
			if e.M {
				b = append(b, 1)
			} else {
				b = append(b, 0)
			}
		}
		return b
	}
	return numbersByWords(r.T)
}

func digits(v uint64) string { return strconv.FormatUint(v, 10) }

// textByWords is asked of right ones.
func textByWords(r record.Record) string {
	t, x := digits(r.T), digits(r.X)
	switch r.Kind {
	case 1:
		return "begin " + t
	case 2:
		return "read " + t + " " + x + " " + digits(r.V.W) + "." + digits(r.V.N)
	case 3:
		return "write " + t + " " + x + " " + digits(r.Value)
	case 4:
		return "delete " + t + " " + x
	case 5:
		s := "pred " + t + " " + pred.Text(r.P)
		for _, e := range r.Entries {
			s += " " + digits(e.X) + ":" + digits(e.V.W) + "." + digits(e.V.N)
			if e.M {
				s += ":1"
			} else {
				s += ":0"
			}
		}
		return s
	case 6:
		return "commit " + t
	}
	return "abort " + t
}

// numbers are small ones, and those where something may go over.
func numbers() []uint64 {
	return []uint64{0, 1, 2, 3, 5, 9, 10, 127, 128, 255, 256, 300, 16383, 16384, 1<<32 - 1, 1 << 32, 1<<63 - 1, 1 << 63, top - 1, top}
}

// predicates are right ones of all kinds, up to the limits.
func predicates() []pred.Expr {
	deep := xMost(300)
	for range 7 {
		deep = not(deep)
	}
	return []pred.Expr{
		all(), xMost(0), xMost(top), {Kind: pred.VMost, A: 7}, {Kind: pred.VMod, A: 3, B: 1}, {Kind: pred.VMod, A: top, B: 1 << 63},
		not(all()), both(), {Kind: pred.Or}, both(xMost(7), not(pred.Expr{Kind: pred.VMod, A: 3, B: 1})), deep,
		both(slices.Repeat([]pred.Expr{xMost(1 << 40)}, 31)...),
	}
}

// grown are many right records of all kinds; the same ones each time.
func grown(many int) []record.Record {
	r := rand.New(rand.NewPCG(5, 50))
	n := func() uint64 { return numbers()[r.IntN(len(numbers()))] }
	var l []record.Record
	for i := range many {
		switch i % 7 {
		case 0:
			l = append(l, begin(n()))
		case 1:
			l = append(l, read(n(), n(), n(), n()))
		case 2:
			l = append(l, write(n(), n(), n()))
		case 3:
			l = append(l, erase(n(), n()))
		case 4:
			l = append(l, commit(n()))
		case 5:
			l = append(l, abort(n()))
		case 6:
			p := predicates()[r.IntN(len(predicates()))]
			a := ask(n(), p)
			for range r.IntN(5) {
				a.Entries = append(a.Entries, entry(n(), n(), n(), r.IntN(2) == 1))
			}
			l = append(l, a)
		}
	}
	return l
}

// ones are right records, one of each kind, all parts that it names other than 0.
func ones() []record.Record {
	return []record.Record{
		begin(9), read(7, 300, 2, 1), write(1, 2, 300), erase(4, 5), ask(1, xMost(3), entry(5, 1, 2, true), entry(6, 0, 0, false)), commit(3), abort(8),
	}
}

// strangers are right records of each kind with one part more, that the kind does not name: each of them is not right.
func strangers() []record.Record {
	has := map[int]string{1: "", 2: "XV", 3: "Xv", 4: "X", 5: "PE", 6: "", 7: ""}
	more := []struct {
		part byte
		put  func(r *record.Record)
	}{
		{'X', func(r *record.Record) { r.X = 1 }},
		{'X', func(r *record.Record) { r.X = top }},
		{'V', func(r *record.Record) { r.V.W = 1 }},
		{'V', func(r *record.Record) { r.V.N = 1 }},
		{'V', func(r *record.Record) { r.V = version(top, top) }},
		{'v', func(r *record.Record) { r.Value = 1 }},
		{'v', func(r *record.Record) { r.Value = 1 << 63 }},
		{'P', func(r *record.Record) { r.P = all() }},
		{'P', func(r *record.Record) { r.P.Kind = -1 }},
		{'P', func(r *record.Record) { r.P.A = 1 }},
		{'P', func(r *record.Record) { r.P.B = 1 }},
		{'P', func(r *record.Record) { r.P.Parts = []pred.Expr{{}} }},
		{'E', func(r *record.Record) { r.Entries = []record.Entry{{}} }},
		{'E', func(r *record.Record) { r.Entries = []record.Entry{entry(1, 2, 3, true)} }},
	}
	var l []record.Record
	for _, r := range slices.Concat(ones(), []record.Record{begin(0), read(0, 0, 0, 0), write(0, 0, 0), erase(0, 0), ask(0, all()), commit(0), abort(0)}) {
		for _, m := range more {
			if slices.Contains([]byte(has[r.Kind]), m.part) {
				continue
			}
			s := r
			m.put(&s)
			l = append(l, s)
		}
	}
	return l
}

// spoilt are records that are not right.
func spoilt() []record.Record {
	l := strangers()
	for _, k := range []int{math.MinInt, math.MinInt + 1, -256, -255, -1, 0, 8, 9, 255, 256, 257, 261, 1<<32 + 1, 1<<40 + 5, math.MaxInt} {
		for _, r := range append(ones(), record.Record{}) {
			r.Kind = k
			l = append(l, r)
		}
	}
	nine := all()
	for range 8 {
		nine = not(nine)
	}
	itself := make([]pred.Expr, 1)
	itself[0] = pred.Expr{Kind: pred.Not, Parts: itself}
	for _, p := range []pred.Expr{
		{}, {Kind: 8}, {Kind: -1}, {Kind: pred.All, A: 1}, {Kind: pred.XMost, B: 1}, {Kind: pred.VMod}, {Kind: pred.VMod, A: 3, B: 3}, {Kind: pred.Not},
		{Kind: pred.All, Parts: []pred.Expr{all()}}, not(pred.Expr{}), both(all(), pred.Expr{Kind: 9}), nine, both(slices.Repeat([]pred.Expr{all()}, 32)...), itself[0],
	} {
		l = append(l, ask(1, p), ask(1, p, entry(1, 1, 1, true)))
	}
	return l
}

// emptied is the same record, with lists that are empty for those that are nil.
func emptied(r record.Record) record.Record {
	if r.Entries == nil {
		r.Entries = []record.Entry{}
	}
	if r.P.Parts == nil {
		r.P.Parts = []pred.Expr{}
	}
	return r
}
