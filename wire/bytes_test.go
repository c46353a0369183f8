package wire_test

import (
	"bytes"
	"math/rand/v2"
	"slices"
	"testing"

	"alibi/api"
	"alibi/record"
	"alibi/wire"
)

// checkDecode holds what Decode and Records answer against the chapter's words, and asks what follows from them.
func checkDecode(t *testing.T, b []byte) {
	t.Helper()
	want, wantAt, wantRule := decodedByWords(b)
	l, at, rule := wire.Decode(b)
	if !slices.EqualFunc(l, want, samePlaced) || at != wantAt || rule != wantRule {
		t.Errorf("Decode(%v): %v, %d, %d, not %v, %d, %d", b, l, at, rule, want, wantAt, wantRule)
		return
	}
	var records []record.Record
	for _, p := range want {
		records = append(records, p.Record)
	}
	if got, at, rule := wire.Records(b); !sameTrace(got, records) || at != wantAt || rule != wantRule {
		t.Errorf("Records(%v): %v, %d, %d, not %v, %d, %d", b, got, at, rule, records, wantAt, wantRule)
	}
	if again, e := wire.Encode(records...); e != api.OK || !bytes.Equal(again, b[:at]) {
		t.Errorf("Encode of what %v is decoded to: %v, %d", b, again, e)
	}
	if ahead, n, rule := wire.Decode(b[:at]); len(ahead) != len(l) || n != at || rule != api.Right {
		t.Errorf("Decode of %v up to the offence: %d records, %d, %d", b, len(ahead), n, rule)
	}
}

// P6.1: bytes, written out.
func TestEncode(t *testing.T) {
	for i, x := range []struct {
		l    []record.Record
		want []byte
	}{
		{nil, nil},
		{[]record.Record{}, nil},
		{[]record.Record{begin(300)}, framed(1, 172, 2)},
		{[]record.Record{begin(1), begin(1)}, slices.Concat(framed(1, 1), framed(1, 1))},
		{[]record.Record{commit(2), begin(1)}, slices.Concat(framed(6, 2), framed(1, 1))},
		{ones(), slices.Concat(
			framed(1, 1), framed(3, 1, 5, 172, 2), framed(2, 1, 5, 1, 1), framed(5, 1, 5, 5, 4, 172, 2, 7, 2, 4, 0, 0, 0, 5, 1, 1, 1), framed(4, 1, 5), framed(6, 1),
			framed(7, 255, 255, 255, 255, 255, 255, 255, 255, 255, 1),
		)},
	} {
		if b, e := wire.Encode(x.l...); e != api.OK || !bytes.Equal(b, x.want) {
			t.Errorf("%d: %v, %d, not %v", i, b, e, x.want)
		}
	}
	for seed := range uint64(50) {
		l := grown(int(seed), seed)
		if b, e := wire.Encode(l...); e != api.OK || !bytes.Equal(b, bytesByWords(l...)) {
			t.Errorf("grown, %d: %v, %d", seed, b, e)
		}
	}
}

// P6.1: a record that is not right, wherever it stands.
func TestEncodeWrong(t *testing.T) {
	for i, r := range spoilt() {
		for at := range len(ones()) + 1 {
			if b, e := wire.Encode(slices.Insert(ones(), at, r)...); len(b) != 0 || e != api.ErrRecord {
				t.Errorf("%d at %d: %v, %d", i, at, b, e)
			}
		}
		if b, e := wire.Encode(r); len(b) != 0 || e != api.ErrRecord {
			t.Errorf("%d: %v, %d", i, b, e)
		}
	}
}

// P6.1: as many records as may be, and one more, whose error comes first.
func TestEncodeLimit(t *testing.T) {
	most := many(65536)
	if b, e := wire.Encode(most...); e != api.OK || !bytes.Equal(b, bytes.Repeat(framed(6, 1), 65536)) {
		t.Errorf("%d bytes, %d", len(b), e)
	}
	for _, at := range []int{0, 30000, 65535} {
		wrong := slices.Clone(most)
		wrong[at] = record.Record{}
		if b, e := wire.Encode(wrong...); len(b) != 0 || e != api.ErrRecord {
			t.Errorf("wrong at %d: %d bytes, %d", at, len(b), e)
		}
		if b, e := wire.Encode(append(wrong, begin(1))...); len(b) != 0 || e != api.ErrLimit {
			t.Errorf("wrong at %d, and one more: %d bytes, %d", at, len(b), e)
		}
	}
	for _, more := range [][]record.Record{{begin(1)}, {{}}, most} {
		if b, e := wire.Encode(slices.Concat(most, more)...); len(b) != 0 || e != api.ErrLimit {
			t.Errorf("%d more: %d bytes, %d", len(more), len(b), e)
		}
	}
}

// P6.2: the chapter's examples.
func TestDecodeExample(t *testing.T) {
	b, _ := wire.Encode(begin(1), commit(1))
	want := []wire.Placed{{Record: begin(1), From: 0, To: 7}, {Record: commit(1), From: 7, To: 14}}
	if l, at, rule := wire.Decode(b); len(b) != 14 || !slices.EqualFunc(l, want, samePlaced) || at != 14 || rule != api.Right {
		t.Errorf("%v, %d, %d", l, at, rule)
	}
	if l, at, rule := wire.Decode(b[:10]); !slices.EqualFunc(l, want[:1], samePlaced) || at != 7 || rule != api.Cut {
		t.Errorf("%v, %d, %d", l, at, rule)
	}
	if l, at, rule := wire.Records(b[:10]); !sameTrace(l, []record.Record{begin(1)}) || at != 7 || rule != api.Cut {
		t.Errorf("%v, %d, %d", l, at, rule)
	}
	if p := want[1]; p.Kind != record.Commit || p.T != 1 { // its record's parts are its own
		t.Errorf("%v", p)
	}
}

// P6.2: of nothing there are no records, and no offence.
func TestDecodeNothing(t *testing.T) {
	for _, b := range [][]byte{nil, {}, bytesByWords(begin(1))[:0]} {
		if l, at, rule := wire.Decode(b); len(l) != 0 || at != 0 || rule != api.Right {
			t.Errorf("%v, %d, %d", l, at, rule)
		}
		if l, at, rule := wire.Records(b); len(l) != 0 || at != 0 || rule != api.Right {
			t.Errorf("%v, %d, %d", l, at, rule)
		}
	}
}

// P6.2, P6.5: what was encoded is decoded as it was, with the places at which the first records' bytes end.
func TestDecodeGrown(t *testing.T) {
	for seed := range uint64(40) {
		l := append(ones(), grown(int(seed), seed)...)
		b, _ := wire.Encode(l...)
		checkDecode(t, b)
		placed, at, rule := wire.Decode(b)
		if len(placed) != len(l) || at != len(b) || rule != api.Right {
			t.Fatalf("%d: %d records, %d, %d", seed, len(placed), at, rule)
		}
		for i, p := range placed {
			ahead, _ := wire.Encode(l[:i]...)
			with, _ := wire.Encode(l[:i+1]...)
			if !record.Same(p.Record, l[i]) || p.From != len(ahead) || p.To != len(with) {
				t.Errorf("%d, %d: %v", seed, i, p)
			}
			if n, to, rule := wire.Records(b[:p.To]); len(n) != i+1 || to != p.To || rule != api.Right {
				t.Errorf("%d, up to %d: %d records, %d, %d", seed, i, len(n), to, rule)
			}
		}
		if again, _, _ := wire.Records(b); !sameTrace(again, l) {
			t.Errorf("%d: %v", seed, again)
		}
	}
}

// offences are frames that offend a rule, each with the lowest one.
func offences() []struct {
	b    []byte
	rule api.Rule
} {
	spoil := func(b []byte) []byte {
		b[len(b)-1] ^= 1
		return b
	}
	long := bytes.Repeat([]byte{255}, 12)
	return []struct {
		b    []byte
		rule api.Rule
	}{
		{append([]byte{1}, 255, 255, 255, 127), api.Cut}, {[]byte{9, 255, 255, 255, 127, 1}, api.Cut}, // its kind is none, too
		{[]byte{1, 255, 255, 255, 255, 255, 255, 255, 255, 255, 1}, api.Cut},
		{[]byte{1, 128, 0}, api.Length}, {[]byte{0, 129, 0, 1}, api.Length}, {append([]byte{7}, long...), api.Length}, {append([]byte{8}, long...), api.Length},
		{spoil(framed(1, 1)), api.Check}, {spoil(framed(0, 1)), api.Check}, {spoil(framed(8)), api.Check}, {spoil(framed(1, 1, 1)), api.Check}, {spoil(framed(5)), api.Check},
		{framed(0), api.Kind}, {framed(0, 1), api.Kind}, {framed(8, 1), api.Kind}, {framed(9), api.Kind}, {framed(255, 1, 1, 1), api.Kind}, {framed(11, 128), api.Kind},
		{framed(1), api.Payload}, {framed(1, 1, 1), api.Payload}, {framed(2, 1, 2, 3), api.Payload}, {framed(3, 1, 2, 128), api.Payload}, {framed(4, 1, 2, 3), api.Payload},
		{framed(5, 1, 1, 0, 0), api.Payload}, {framed(5, 1, 1, 1, 1, 5, 0, 0, 2), api.Payload}, {framed(6, 129, 0), api.Payload}, {framed(7), api.Payload},
	}
}

// P6.2: each rule is told, wherever it is offended; all ends there, whatever comes behind.
func TestDecodeOffends(t *testing.T) {
	l := ones()
	for i, x := range offences() {
		for n := range len(l) + 1 {
			ahead := bytesByWords(l[:n]...)
			for _, behind := range [][]byte{nil, bytesByWords(l[n:]...), framed(0), {1, 128, 0}, {1}} {
				if x.rule == api.Cut {
					behind = nil
				}
				b := slices.Concat(ahead, x.b, behind)
				checkDecode(t, b)
				placed, at, rule := wire.Decode(b)
				if len(placed) != n || at != len(ahead) || rule != x.rule {
					t.Errorf("%d behind %d: %d records, %d, %d", i, n, len(placed), at, rule)
				}
				records, at, rule := wire.Records(b)
				if !sameTrace(records, l[:n]) || at != len(ahead) || rule != x.rule {
					t.Errorf("%d behind %d: %v, %d, %d", i, n, records, at, rule)
				}
			}
		}
	}
}

// P6.2: all kinds, of frames that are right: of those that are none's records Kind, whatever they hold.
func TestDecodeKinds(t *testing.T) {
	for kind := range 256 {
		for _, payload := range [][]byte{nil, {1}, {1, 2}, {1, 2, 3}, {1, 2, 3, 4}, {1, 1, 1, 0}, {128}} {
			b := slices.Concat(framed(6, 1), framed(byte(kind), payload...), framed(6, 2))
			checkDecode(t, b)
			if _, _, rule := wire.Decode(b); (rule == api.Kind) != (kind < 1 || kind > 7) {
				t.Errorf("%d, %v: %d", kind, payload, rule)
			}
		}
	}
}

// P6.2, P6.5: each beginning and each end of a trace's bytes, and each byte of theirs as some other one.
func TestDecodeChanged(t *testing.T) {
	good := bytesByWords(append(ones(), grown(6, 60)...)...)
	for i := range good {
		checkDecode(t, good[:i])
		checkDecode(t, good[i:])
		for _, d := range []byte{1, 2, 64, 128, 255} {
			b := bytes.Clone(good)
			b[i] ^= d
			checkDecode(t, b)
			if _, at, rule := wire.Decode(b); at > i || rule == api.Right || rule > api.Check {
				t.Errorf("byte %d by %d: %d, %d", i, d, at, rule)
			}
		}
	}
}

// P6.2, P6.5: any bytes, and frames of any bytes.
func TestDecodeAny(t *testing.T) {
	r := rand.New(rand.NewPCG(6, 6))
	mixed := func(n, below int) []byte {
		b := make([]byte, n)
		for i := range b {
			b[i] = byte(r.IntN(below))
		}
		return b
	}
	found := map[api.Rule]int{}
	for i := range 20000 {
		b := mixed(i%50, 256)
		for range i % 4 {
			b = slices.Concat(framed(byte(r.IntN(9)), mixed(1+r.IntN(5), 4)...), b)
		}
		checkDecode(t, b)
		_, _, rule := wire.Decode(b)
		found[rule]++
	}
	for rule := range api.Payload + 1 {
		if found[rule] == 0 {
			t.Errorf("never %d", rule)
		}
	}
}

// P6.2: there is no limit to how many records are decoded.
func TestDecodeMany(t *testing.T) {
	for _, n := range []int{65535, 65536, 65537, 150000} {
		b := bytes.Repeat(framed(6, 1), n)
		l, at, rule := wire.Decode(append(b, framed(0)...))
		if len(l) != n || at != 7*n || rule != api.Kind {
			t.Fatalf("%d: %d records, %d, %d", n, len(l), at, rule)
		}
		for i, p := range l {
			if !samePlaced(p, wire.Placed{Record: commit(1), From: 7 * i, To: 7*i + 7}) {
				t.Fatalf("%d: %v", i, p)
			}
		}
		if l, at, rule := wire.Records(b); !sameTrace(l, many(n)) || at != 7*n || rule != api.Right {
			t.Errorf("%d: %d records, %d, %d", n, len(l), at, rule)
		}
	}
}

// P6.5: no two traces have the same bytes, or the same lines.
func TestNoTwoAlike(t *testing.T) {
	seen := map[string][]record.Record{}
	for seed := range uint64(2000) {
		l := grown(int(seed%4), seed)
		b, _ := wire.Encode(l...)
		s, _ := wire.Text(l...)
		for _, k := range []string{"b" + string(b), "s" + s} {
			if q, ok := seen[k]; ok && !sameTrace(q, l) {
				t.Errorf("%v, %v", q, l)
			}
			seen[k] = l
		}
	}
}

// P6.4: what is encoded is only read, and not kept.
func TestEncodeMemory(t *testing.T) {
	l := append(ones(), grown(30, 1)...)
	want := bytesByWords(l...)
	was := copied(l)
	back := append(slices.Clone(l), begin(77))
	b, _ := wire.Encode(back[:len(l)]...)
	c, _ := wire.Encode(back[:len(l)]...)
	if !sameTrace(l, was) || !sameTrace(back, append(was, begin(77))) {
		t.Errorf("changed: %v", back)
	}
	for _, r := range l {
		blot(r)
	}
	clear(back)
	_ = append(b, 1, 2, 3)
	if !bytes.Equal(b, want) || !bytes.Equal(c, want) {
		t.Errorf("kept: %v", b)
	}
	clear(b)
	if !bytes.Equal(c, want) {
		t.Errorf("shared: %v", c)
	}
}

// P6.4: bytes are only read, what lies behind their length included; records that are told are new memory, and share none.
func TestDecodeMemory(t *testing.T) {
	l := append(ones(), grown(30, 2)...)
	back := append(bytesByWords(l...), framed(6, 9)...)
	was := bytes.Clone(back)
	b := back[:len(back)-7]
	one, _, _ := wire.Decode(b)
	two, _, _ := wire.Decode(b)
	records, _, _ := wire.Records(b)
	if !bytes.Equal(back, was) {
		t.Errorf("changed: %v", back)
	}
	clear(back)
	for i, p := range one { // record by record: those behind it stay what they were
		if !record.Same(p.Record, l[i]) {
			t.Errorf("%d is shared, or kept: %v", i, p)
		}
		blot(p.Record)
	}
	clear(one)
	_ = append(one[:0], wire.Placed{Record: begin(1), From: 5})
	for i, p := range two {
		if !record.Same(p.Record, l[i]) || !record.Same(records[i], l[i]) {
			t.Errorf("%d is shared with another answer: %v, %v", i, p, records[i])
		}
	}
}
