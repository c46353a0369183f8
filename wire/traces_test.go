package wire_test

import (
	"encoding/binary"
	"hash/crc32"
	"math"
	"math/rand/v2"
	"slices"

	"alibi/api"
	"alibi/frame"
	"alibi/pred"
	"alibi/record"
	"alibi/wire"
)

// What the tests have of traces' words: traces, and what they are by the words of the chapter alone.

const top = uint64(math.MaxUint64)

func begin(t uint64) record.Record  { return record.Record{Kind: record.Begin, T: t} }
func commit(t uint64) record.Record { return record.Record{Kind: record.Commit, T: t} }
func abort(t uint64) record.Record  { return record.Record{Kind: record.Abort, T: t} }

func read(t, x, w, n uint64) record.Record {
	return record.Record{Kind: record.Read, T: t, X: x, V: record.Version{W: w, N: n}}
}

func write(t, x, v uint64) record.Record {
	return record.Record{Kind: record.Write, T: t, X: x, Value: v}
}

func erase(t, x uint64) record.Record { return record.Record{Kind: record.Delete, T: t, X: x} }

func ask(t uint64, p pred.Expr, l ...record.Entry) record.Record {
	return record.Record{Kind: record.Pred, T: t, P: p, Entries: l}
}

func entry(x, w, n uint64, m bool) record.Entry {
	return record.Entry{X: x, V: record.Version{W: w, N: n}, M: m}
}

// ones is a trace that has each kind once.
func ones() []record.Record {
	p := pred.Expr{Kind: pred.Not, Parts: []pred.Expr{{Kind: pred.VMod, A: 300, B: 7}}}
	return []record.Record{
		begin(1), write(1, 5, 300), read(1, 5, 1, 1), ask(1, p, entry(4, 0, 0, false), entry(5, 1, 1, true)), erase(1, 5), commit(1), abort(top),
	}
}

// grown is a trace of many records of all kinds; the same one each time.
func grown(many int, seed uint64) []record.Record {
	r := rand.New(rand.NewPCG(6, seed))
	n := func() uint64 {
		l := []uint64{0, 1, 2, 5, 127, 128, 300, 1 << 32, top}
		return l[r.IntN(len(l))]
	}
	var l []record.Record
	for range many {
		p := pred.Expr{Kind: pred.Or, Parts: []pred.Expr{{Kind: pred.All}, {Kind: pred.XMost, A: n()}}}
		q := ask(n(), p)
		for range r.IntN(40) {
			q.Entries = append(q.Entries, entry(n(), n(), n(), r.IntN(2) == 1))
		}
		of := []record.Record{begin(n()), read(n(), n(), n(), n()), write(n(), n(), n()), erase(n(), n()), commit(n()), abort(n()), q}
		l = append(l, of[r.IntN(len(of))])
	}
	return l
}

// spoilt are records that are not right.
func spoilt() []record.Record {
	return []record.Record{
		{}, {Kind: 8, T: 1}, {Kind: -1, T: 1}, {Kind: 257, T: 1}, {Kind: record.Begin, T: 1, X: 1}, {Kind: record.Commit, T: 1, Value: 1},
		{Kind: record.Write, X: 1, V: record.Version{W: 1, N: 1}}, {Kind: record.Delete, X: 1, Entries: []record.Entry{{}}},
		{Kind: record.Read, P: pred.Expr{Kind: pred.All}}, {Kind: record.Pred, T: 1}, ask(1, pred.Expr{Kind: pred.VMod}), ask(1, pred.Expr{Kind: pred.Not}),
	}
}

// framed is a frame's bytes: kind, length, payload, and its check, the lowest byte first.
func framed(kind byte, payload ...byte) []byte {
	b := binary.AppendUvarint([]byte{kind}, uint64(len(payload)))
	b = append(b, payload...)
	return binary.LittleEndian.AppendUint32(b, crc32.ChecksumIEEE(b))
}

// bytesByWords is asked of right records.
func bytesByWords(l ...record.Record) []byte {
	var b []byte
	for _, r := range l {
		f, _ := record.Put(r)
		b = append(b, framed(f.Kind, f.Payload...)...)
	}
	return b
}

// decodedByWords is what Decode is to answer.
func decodedByWords(b []byte) ([]wire.Placed, int, api.Rule) {
	var l []wire.Placed
	at := 0
	for at < len(b) {
		f, next, r := frame.Get(b, at)
		if r != api.Right {
			return l, at, r
		}
		q, r := record.Parse(f)
		if r != api.Right {
			return l, at, r
		}
		l = append(l, wire.Placed{Record: q, From: at, To: next})
		at = next
	}
	return l, at, api.Right
}

// textByWords is asked of right records.
func textByWords(l ...record.Record) string {
	var b []byte
	for _, r := range l {
		b = append(append(b, record.Text(r)...), 10)
	}
	return string(b)
}

func sameTrace(a, b []record.Record) bool { return slices.EqualFunc(a, b, record.Same) }

func samePlaced(a, b wire.Placed) bool {
	return record.Same(a.Record, b.Record) && a.From == b.From && a.To == b.To
}

// copied is the same trace, in new memory.
func copied(l []record.Record) []record.Record {
	var c []record.Record
	for _, r := range l {
		c = append(c, record.Copy(r))
	}
	return c
}

// blot spoils all that a record's lists have, and what lies behind them.
func blot(r record.Record) {
	_ = append(r.Entries, entry(9, 9, 9, true))
	clear(r.Entries)
	for _, p := range r.P.Parts {
		clear(p.Parts)
	}
	_ = append(r.P.Parts, pred.Expr{Kind: 99})
	clear(r.P.Parts)
}

// many are as many records.
func many(n int) []record.Record { return slices.Repeat([]record.Record{commit(1)}, n) }
