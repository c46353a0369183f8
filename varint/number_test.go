package varint_test

import (
	"bytes"
	"math"
	"math/big"
	"testing"

	"alibi/api"
	"alibi/varint"
)

// edges are the least and the greatest number of each length, and their neighbours; some ordinary ones beside.
func edges() []uint64 {
	l := []uint64{0, 1, 2, 3, 100, 300, 65535, 1 << 31, 1<<32 - 1, 1e18, 1<<63 - 1, math.MaxUint64 - 1, math.MaxUint64}
	for k := 7; k < 64; k += 7 {
		l = append(l, 1<<k-2, 1<<k-1, 1<<k, 1<<k+1)
	}
	return l
}

// digits is how v stands, by the words of the chapter: digits to the base 128, and 128 more on all but the last.
func digits(v uint64) []byte {
	n, base, rest := new(big.Int).SetUint64(v), big.NewInt(128), new(big.Int)
	var b []byte
	for {
		n.DivMod(n, base, rest)
		b = append(b, byte(rest.Int64()))
		if n.Sign() == 0 {
			break
		}
	}
	for i := range len(b) - 1 {
		b[i] += 128
	}
	return b
}

// wanted is what Get is to answer, each of the promise's cases in its order.
func wanted(b []byte, at int) (uint64, int, api.Errno) {
	if at < 0 || at > len(b) {
		return 0, 0, api.ErrArg
	}
	rest := b[at:]
	last := 0
	for last < len(rest) && rest[last] >= 128 {
		last++
	}
	if last >= 10 {
		return 0, 0, api.ErrVarint
	}
	if last == len(rest) {
		return 0, 0, api.ErrShort
	}
	n := new(big.Int)
	for i := last; i >= 0; i-- {
		n.Add(n.Lsh(n, 7), big.NewInt(int64(rest[i]%128)))
	}
	if !n.IsUint64() || !bytes.Equal(digits(n.Uint64()), rest[:last+1]) {
		return 0, 0, api.ErrVarint
	}
	return n.Uint64(), at + last + 1, api.OK
}

func checkGet(t *testing.T, b []byte, at int) {
	t.Helper()
	v, next, e := varint.Get(b, at)
	if x, n, f := wanted(b, at); v != x || next != n || e != f {
		t.Fatalf("Get(%v, %d): %d, %d, %d, not %d, %d, %d", b, at, v, next, e, x, n, f)
	}
}

// P1.1, the chapter's examples.
func TestExamples(t *testing.T) {
	for _, x := range []struct {
		v    uint64
		want []byte
	}{
		{0, []byte{0}},
		{127, []byte{127}},
		{128, []byte{128, 1}},
		{300, []byte{172, 2}},
	} {
		if b := varint.Put(x.v); !bytes.Equal(b, x.want) {
			t.Errorf("Put(%d): %v", x.v, b)
		}
	}
	nines := bytes.Repeat([]byte{255}, 9)
	for i, x := range []struct {
		b    []byte
		at   int
		v    uint64
		next int
		e    api.Errno
	}{
		{[]byte{172, 2}, 0, 300, 2, api.OK},
		{[]byte{172, 2}, 1, 2, 2, api.OK},
		{[]byte{128, 0}, 0, 0, 0, api.ErrVarint},
		{[]byte{128}, 0, 0, 0, api.ErrShort},
		{append(bytes.Clone(nines), 1), 0, math.MaxUint64, 10, api.OK},
		{append(bytes.Clone(nines), 2), 0, 0, 0, api.ErrVarint},
		{append(bytes.Clone(nines), 255), 0, 0, 0, api.ErrVarint},
	} {
		if v, next, e := varint.Get(x.b, x.at); v != x.v || next != x.next || e != x.e {
			t.Errorf("%d: %d, %d, %d", i, v, next, e)
		}
	}
}

// P1.1: numbers of each length, and how many bytes they have.
func TestPutAndSize(t *testing.T) {
	if varint.MaxLen != 10 {
		t.Errorf("MaxLen: %d", varint.MaxLen)
	}
	for _, v := range edges() {
		want := digits(v)
		if b := varint.Put(v); !bytes.Equal(b, want) {
			t.Errorf("Put(%d): %v, not %v", v, b, want)
		}
		if n := varint.Size(v); n != len(want) {
			t.Errorf("Size(%d): %d, not %d", v, n, len(want))
		}
	}
}

// P1.1: places below 0, past the end, and at it.
func TestGetPlaces(t *testing.T) {
	b := []byte{172, 2, 7}
	for _, x := range []struct {
		b    []byte
		at   int
		want api.Errno
	}{
		{b, -1, api.ErrArg}, {b, math.MinInt, api.ErrArg}, {b, 4, api.ErrArg}, {b, math.MaxInt, api.ErrArg},
		{nil, -1, api.ErrArg}, {nil, 1, api.ErrArg}, {[]byte{}, math.MaxInt, api.ErrArg},
		{b, 3, api.ErrShort}, {nil, 0, api.ErrShort}, {[]byte{}, 0, api.ErrShort},
		{b[:2], 3, api.ErrArg}, // what lies behind the length is not there
		{b[:1], 0, api.ErrShort},
	} {
		if v, next, e := varint.Get(x.b, x.at); v != 0 || next != 0 || e != x.want {
			t.Errorf("Get(%v, %d): %d, %d, %d", x.b, x.at, v, next, e)
		}
	}
	for at, want := range []uint64{300, 2, 7} {
		if v, next, e := varint.Get(b, at); v != want || next != max(2, at+1) || e != api.OK {
			t.Errorf("at %d: %d, %d, %d", at, v, next, e)
		}
	}
}

// P1.1: bytes that end early, and ten and more that have no last one; at the beginning, and behind other bytes.
func TestGetWithoutLast(t *testing.T) {
	for n := range 13 {
		want := api.ErrShort
		if n >= 10 {
			want = api.ErrVarint
		}
		for _, c := range []byte{128, 129, 255} {
			for ahead := range 3 {
				b := append(make([]byte, ahead), bytes.Repeat([]byte{c}, n)...)
				if v, next, e := varint.Get(b, ahead); v != 0 || next != 0 || e != want {
					t.Errorf("%d times %d: %d, %d, %d", n, c, v, next, e)
				}
			}
		}
	}
	if _, _, e := varint.Get(append(bytes.Repeat([]byte{128}, 10), 1), 0); e != api.ErrVarint {
		t.Errorf("a last byte behind ten others: %d", e)
	}
}

// P1.1: of each length, each last byte: 0 is none's but a single byte's, and the tenth is 1 alone.
func TestGetLast(t *testing.T) {
	for n := range 11 {
		for _, c := range []byte{128, 129, 255} {
			for last := range 256 {
				checkGet(t, append(bytes.Repeat([]byte{c}, n), byte(last), 5), 0)
			}
		}
	}
}

// P1.1, P1.6: all rows of up to two bytes, and rows of three to eleven of some, at each place.
func TestGetAll(t *testing.T) {
	for i := range 256 {
		checkGet(t, []byte{byte(i)}, 0)
		for j := range 256 {
			for at := -1; at < 4; at++ {
				checkGet(t, []byte{byte(i), byte(j)}, at)
			}
		}
	}
	some := []byte{0, 1, 2, 127, 128, 129, 255}
	state := uint32(1)
	for k := range 20000 {
		b := make([]byte, 3+k%9)
		for i := range b {
			state = state*1664525 + 1013904223
			b[i] = some[state>>16%uint32(len(some))]
		}
		for at := -1; at <= len(b)+1; at++ {
			checkGet(t, b, at)
		}
	}
}

// P1.5: bytes are only read, and those of Put are new.
func TestNumbersMemory(t *testing.T) {
	b := []byte{7, 172, 2, 9, 128}
	was := bytes.Clone(b)
	varint.Get(b, 1)
	varint.Get(b[:2], 1)
	varint.Get(b, 4)
	if !bytes.Equal(b, was) {
		t.Errorf("changed: %v", b)
	}
	for _, v := range []uint64{0, 127, 300} {
		one, want := varint.Put(v), digits(v)
		for i := range one {
			one[i] = 99
		}
		if two := varint.Put(v); !bytes.Equal(two, want) {
			t.Errorf("%d: %v", v, two)
		}
	}
}

// P1.6: what was put is got, wherever it stands, and whatever is around it.
func TestPutIsGot(t *testing.T) {
	for _, v := range edges() {
		b := varint.Put(v)
		for _, ahead := range [][]byte{nil, {0}, {128}, bytes.Repeat([]byte{255}, 12)} {
			for _, behind := range [][]byte{nil, {0}, {1}, {128}, {255, 255}} {
				row := append(append(bytes.Clone(ahead), b...), behind...)
				x, next, e := varint.Get(row, len(ahead))
				if x != v || next != len(ahead)+len(b) || e != api.OK {
					t.Errorf("%d in %v: %d, %d, %d", v, row, x, next, e)
				}
			}
		}
	}
}

// P1.6: no two stand alike, none begins with another one, and the greater one is not the shorter one.
func TestStandApart(t *testing.T) {
	l := edges()
	for v := range uint64(600) {
		l = append(l, v)
	}
	for _, v := range l {
		for _, w := range l {
			a, b := varint.Put(v), varint.Put(w)
			if v != w && bytes.HasPrefix(b, a) {
				t.Errorf("%d begins as %d", w, v)
			}
			if v < w && (len(a) > len(b) || varint.Size(v) > varint.Size(w)) {
				t.Errorf("%d is longer than %d", v, w)
			}
		}
	}
}
