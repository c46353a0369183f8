package record_test

import (
	"bytes"
	"slices"
	"testing"

	"alibi/api"
	"alibi/frame"
	"alibi/pred"
	"alibi/record"
)

// offence is the rule that Parse answers of a frame; Right, if it answers a record; -1, if it answers both, or neither.
func offence(kind byte, b []byte) api.Rule {
	r, rule := record.Parse(frame.Frame{Kind: kind, Payload: b})
	if (rule == api.Right) == sameByWords(r, record.Record{}) {
		return -1
	}
	return rule
}

// P5.2: how records stand.
func TestPut(t *testing.T) {
	for i, x := range []struct {
		r    record.Record
		want []byte
	}{
		{begin(9), []byte{9}},
		{begin(0), []byte{0}},
		{begin(top), []byte{255, 255, 255, 255, 255, 255, 255, 255, 255, 1}},
		{read(7, 300, 2, 1), []byte{7, 172, 2, 2, 1}},
		{read(9, 128, 0, 0), []byte{9, 128, 1, 0, 0}},
		{write(1, 2, 300), []byte{1, 2, 172, 2}},
		{write(1, 2, 0), []byte{1, 2, 0}},
		{erase(1, 2), []byte{1, 2}},
		{ask(3, all()), []byte{3, 1, 1, 0}},
		{ask(1, all(), entry(5, 0, 0, false)), []byte{1, 1, 1, 1, 5, 0, 0, 0}},
		{ask(1, both(), entry(300, 2, 128, true), entry(4, 0, 0, false)), []byte{1, 2, 6, 0, 2, 172, 2, 2, 128, 1, 1, 4, 0, 0, 0}},
		{commit(0), []byte{0}},
		{abort(300), []byte{172, 2}},
	} {
		f, e := record.Put(x.r)
		if e != api.OK || int(f.Kind) != x.r.Kind || !bytes.Equal(f.Payload, x.want) {
			t.Errorf("%d: %v, %d, not %v", i, f, e, x.want)
		}
		if r, rule := record.Parse(frame.Frame{Kind: byte(x.r.Kind), Payload: x.want}); rule != api.Right || !sameByWords(r, x.r) {
			t.Errorf("%d: %+v, %d", i, r, rule)
		}
	}
}

// P5.2: of what is not right nothing stands.
func TestPutWrong(t *testing.T) {
	for i, r := range spoilt() {
		if f, e := record.Put(r); e != api.ErrRecord || f.Kind != 0 || len(f.Payload) != 0 {
			t.Errorf("%d: %v, %d", i, f, e)
		}
	}
}

// P5.2, P5.5: what was put is parsed as it was; cut, or with more behind, it is none's; put again it stands as it stood.
func TestParseGrown(t *testing.T) {
	for i, r := range slices.Concat(ones(), grown(3500)) {
		f, e := record.Put(r)
		if e != api.OK || int(f.Kind) != r.Kind || !bytes.Equal(f.Payload, payloadByWords(r)) {
			t.Fatalf("%d: %v, %d", i, f, e)
		}
		if g, e := record.Put(emptied(r)); e != api.OK || !frame.Same(f, g) {
			t.Errorf("%d: empty for nil: %v, %d", i, g, e)
		}
		q, rule := record.Parse(f)
		if rule != api.Right || !sameByWords(q, r) {
			t.Errorf("%d: %+v, %d", i, q, rule)
		}
		for n := range f.Payload {
			if rule := offence(f.Kind, f.Payload[:n]); rule != api.Payload {
				t.Errorf("%d: cut to %d: %d", i, n, rule)
			}
		}
		for _, c := range []byte{0, 1, 128, 255} {
			if rule := offence(f.Kind, append(bytes.Clone(f.Payload), c)); rule != api.Payload {
				t.Errorf("%d: and %d: %d", i, c, rule)
			}
		}
	}
}

// P5.2: kinds that are none, whatever the payload is.
func TestParseKinds(t *testing.T) {
	for kind := range 256 {
		for _, b := range [][]byte{nil, {}, {1}, {1, 1}, {1, 1, 1}, {1, 1, 1, 0}, {1, 1, 1, 1, 1}, {128}, {128, 0}} {
			rule := offence(byte(kind), b)
			if is := kind >= 1 && kind <= 7; is == (rule == api.Kind) || rule < 0 {
				t.Errorf("%d, %v: %d", kind, b, rule)
			}
		}
	}
}

// P5.2: payloads that are none's.
func TestParseWrong(t *testing.T) {
	long := append(bytes.Repeat([]byte{255}, 9), 1) // 2^64 - 1
	over := append(bytes.Repeat([]byte{255}, 9), 2)
	for i, x := range []struct {
		kind int
		b    []byte
	}{
		{record.Begin, nil}, {record.Begin, []byte{}}, {record.Begin, []byte{1, 1}}, {record.Begin, []byte{128}}, {record.Begin, []byte{128, 0}}, {record.Begin, []byte{129, 0}},
		{record.Begin, over}, {record.Begin, bytes.Repeat([]byte{128}, 10)}, {record.Begin, append(bytes.Clone(long), 0)},
		{record.Commit, nil}, {record.Commit, []byte{1, 0}}, {record.Abort, nil}, {record.Abort, []byte{1, 0}}, {record.Abort, []byte{255}},
		{record.Read, []byte{1, 2, 3}}, {record.Read, []byte{1, 2, 3, 4, 5}}, {record.Read, []byte{1, 2, 3, 132, 0}}, {record.Read, []byte{1, 2, 128, 0, 1}}, {record.Read, []byte{1}},
		{record.Write, []byte{1, 2}}, {record.Write, []byte{1, 2, 3, 4}}, {record.Write, []byte{1, 2, 128}}, {record.Write, slices.Concat([]byte{1, 2}, over)},
		{record.Delete, []byte{1}}, {record.Delete, []byte{1, 2, 3}}, {record.Delete, []byte{1, 130, 0}},
		{record.Pred, []byte{1}}, {record.Pred, []byte{1, 0}}, {record.Pred, []byte{1, 0, 0}}, {record.Pred, []byte{1, 1}}, {record.Pred, []byte{1, 1, 1}}, // no predicate, no entries
		{record.Pred, []byte{1, 1, 0, 0}}, {record.Pred, []byte{1, 1, 8, 0}}, {record.Pred, []byte{1, 1, 9, 0}}, {record.Pred, []byte{1, 2, 4, 3, 0}}, {record.Pred, []byte{1, 3, 4, 3, 3, 0}},
		{record.Pred, []byte{1, 2, 1, 1, 0}}, {record.Pred, []byte{1, 2, 1, 0, 0}}, {record.Pred, []byte{1, 1, 2, 7, 0}}, {record.Pred, []byte{1, 1, 6, 0, 0}}, // predicate and length don't go together
		{record.Pred, []byte{1, 129, 0, 1, 0}}, {record.Pred, []byte{1, 2, 1, 0}}, {record.Pred, []byte{1, 9, 1, 0}}, {record.Pred, slices.Concat([]byte{1}, long, []byte{1, 0})},
		{record.Pred, []byte{1, 9, 5, 5, 5, 5, 5, 5, 5, 5, 1, 0}}, {record.Pred, slices.Concat([]byte{1, 34, 6, 32}, bytes.Repeat([]byte{1}, 32), []byte{0})}, // too deep, too many nodes
		{record.Pred, []byte{1, 1, 1, 0, 0}}, {record.Pred, []byte{1, 1, 1, 0, 5, 0, 0, 1}}, {record.Pred, []byte{1, 1, 1, 1}}, {record.Pred, []byte{1, 1, 1, 2, 5, 0, 0, 1}}, {record.Pred, []byte{1, 1, 1, 1, 5, 0, 0, 1, 6, 0, 0, 1}},
		{record.Pred, []byte{1, 1, 1, 1, 5}}, {record.Pred, []byte{1, 1, 1, 1, 5, 0}}, {record.Pred, []byte{1, 1, 1, 1, 5, 0, 0}}, {record.Pred, []byte{1, 1, 1, 1, 128, 0, 0, 0, 1}}, {record.Pred, []byte{1, 1, 1, 129, 0, 5, 0, 0, 1}},
		{record.Pred, []byte{1, 1, 1, 1, 5, 0, 0, 2}}, {record.Pred, []byte{1, 1, 1, 1, 5, 0, 0, 255}}, {record.Pred, []byte{1, 1, 1, 1, 5, 0, 0, 129, 0}}, {record.Pred, []byte{1, 1, 1, 1, 5, 0, 0, 128, 0}},
		{record.Pred, []byte{1, 1, 1, 2, 5, 0, 0, 2, 6, 0, 0, 1}}, {record.Pred, []byte{1, 1, 1, 2, 5, 0, 0, 1, 6, 0, 0, 2}},
		{record.Pred, slices.Concat([]byte{1, 1, 1}, long)}, {record.Pred, slices.Concat([]byte{1, 1, 1}, over)}, {record.Pred, slices.Concat([]byte{1, 1, 1}, long, bytes.Repeat([]byte{1, 0, 0, 1}, 100))},
		{record.Pred, slices.Concat([]byte{1, 1, 1, 255, 255, 255, 255, 255, 255, 255, 255, 127}, bytes.Repeat([]byte{1, 0, 0, 1}, 100))},
	} {
		if rule := offence(byte(x.kind), x.b); rule != api.Payload {
			t.Errorf("%d, %v: %d", i, x.b, rule)
		}
	}
}

// P5.2, P5.5: whatever is parsed of changed payloads is right, and stands as it stood.
func TestParseChanged(t *testing.T) {
	for _, r := range slices.Concat(ones(), grown(140)) {
		b := payloadByWords(r)
		for i := range b {
			for _, c := range []byte{0, 1, 2, 3, 5, 7, 8, 9, 127, 128, 129, 255, b[i] + 1, b[i] - 1, b[i] ^ 128} {
				d := bytes.Clone(b)
				d[i] = c
				for kind := range byte(9) {
					checkParsed(t, kind, d)
				}
			}
		}
	}
}

// checkParsed asks of any frame what Parse promises of it: the record whose frame it is, or none.
func checkParsed(t *testing.T, kind byte, b []byte) {
	t.Helper()
	r, rule := record.Parse(frame.Frame{Kind: kind, Payload: b})
	if rule == api.Right && (r.Kind != int(kind) || !rightByWords(r) || !bytes.Equal(payloadByWords(r), b)) {
		t.Errorf("%d, %v: %+v", kind, b, r)
	}
	if rule != api.Right && (rule != api.Kind && rule != api.Payload || !sameByWords(r, record.Record{})) {
		t.Errorf("%d, %v: %+v, %d", kind, b, r, rule)
	}
}

// short are all rows of n of these bytes.
func short(n int, of ...byte) [][]byte {
	l := [][]byte{{}}
	for range n {
		var longer [][]byte
		for _, b := range l {
			for _, c := range of {
				longer = append(longer, append(slices.Clone(b), c))
			}
		}
		l = longer
	}
	return l
}

// P5.2, P5.5: of all short payloads of numbers of one byte just those are parsed that have as many as the kind asks for.
func TestParseShort(t *testing.T) {
	want := map[byte]int{1: 1, 2: 4, 3: 3, 4: 2, 6: 1, 7: 1}
	for n := range 6 {
		for _, b := range short(n, 0, 1, 2, 5, 127) {
			for kind, many := range want {
				checkParsed(t, kind, b)
				if rule := offence(kind, b); (rule == api.Right) != (n == many) {
					t.Fatalf("%d, %v: %d", kind, b, rule)
				}
			}
		}
	}
}

// isPred tells whether a row of bytes below 128 is a Pred's payload.
func isPred(b []byte) bool {
	if len(b) < 2 || len(b) < 3+int(b[1]) {
		return false
	}
	p, many, rest := b[2:2+b[1]], int(b[2+b[1]]), b[3+b[1]:]
	if _, e := pred.Parse(p); e != api.OK || len(rest) != 4*many {
		return false
	}
	for i := 3; i < len(rest); i += 4 {
		if rest[i] > 1 {
			return false
		}
	}
	return true
}

// P5.2, P5.5: of all short payloads just those of a Pred are parsed as one.
func TestParseShortPreds(t *testing.T) {
	found := map[int]int{}
	ask := func(b []byte) {
		checkParsed(t, byte(record.Pred), b)
		rule := offence(byte(record.Pred), b)
		if (rule == api.Right) != isPred(b) {
			t.Fatalf("%v: %d", b, rule)
		}
		if rule == api.Right {
			found[len(b)]++
		}
	}
	for n := range 8 {
		for _, b := range short(n, 0, 1, 2, 5, 7) {
			ask(b)
		}
	}
	for n := 8; n < 12; n++ {
		for _, b := range short(n, 0, 1, 2) {
			ask(b)
		}
	}
	for _, b := range short(12, 1, 2) {
		ask(b)
	}
	if found[4] != 5 || found[8] == 0 || found[12] == 0 {
		t.Errorf("found: %v", found)
	}
}

// P5.5: a version set has no limit of its own.
func TestManyEntries(t *testing.T) {
	r := ask(1, all())
	for i := range uint64(100000) {
		r.Entries = append(r.Entries, entry(i*i, i, top-i, i%3 == 0))
	}
	f, e := record.Put(r)
	if q, rule := record.Parse(f); e != api.OK || rule != api.Right || !sameByWords(q, r) || !bytes.Equal(f.Payload, payloadByWords(r)) {
		t.Errorf("%d bytes, %d, %d", len(f.Payload), e, rule)
	}
	s := record.Text(r)
	if q, e := record.Line(s); e != api.OK || !sameByWords(q, r) || !record.Same(record.Copy(q), r) {
		t.Errorf("%d bytes of text, %d", len(s), e)
	}
}

// P5.5: no two records that are not the same stand alike.
func TestNoTwoStandAlike(t *testing.T) {
	stand := map[string]record.Record{}
	for _, r := range slices.Concat(ones(), grown(3500)) {
		f, _ := record.Put(r)
		s := string(frame.Put(f))
		if q, ok := stand[s]; ok && !sameByWords(q, r) {
			t.Errorf("%+v, %+v", q, r)
		}
		stand[s] = r
	}
}

// P5.4: what is put, and parsed, is only read.
func TestFramesOnlyRead(t *testing.T) {
	for i, r := range slices.Concat(ones(), strangers(), grown(210)) {
		r = withRoom(r)
		was := textOfAll(r)
		record.Put(r)
		record.Right(r)
		record.Same(r, r)
		record.Copy(r)
		if textOfAll(r) != was {
			t.Errorf("%d: %s, not %s", i, textOfAll(r), was)
		}
	}
	for i, r := range slices.Concat(ones(), grown(210)) {
		b := append(payloadByWords(r), 1, 2, 3)
		was := bytes.Clone(b)
		for kind := range byte(9) {
			record.Parse(frame.Frame{Kind: kind, Payload: b[:len(b)-3]})
		}
		if !bytes.Equal(b, was) {
			t.Errorf("%d: %v, not %v", i, b, was)
		}
	}
}

// P5.4: what is answered is new memory: what is done to it, or to what was handed in, is not told by another answer.
func TestFramesNewMemory(t *testing.T) {
	for i, r := range slices.Concat(ones(), grown(210)) {
		r = withRoom(r)
		f, _ := record.Put(r)
		g, _ := record.Put(r)
		b := bytes.Clone(f.Payload)
		one, _ := record.Parse(f)
		two, _ := record.Parse(f)
		clear(f.Payload)
		_ = append(f.Payload, 99)
		if !bytes.Equal(g.Payload, b) || !sameByWords(one, r) {
			t.Errorf("%d: %v, %+v", i, g, one)
		}
		checkApart(t, two, one)
		checkApart(t, r, two)
	}
}
