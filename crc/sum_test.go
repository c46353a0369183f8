package crc_test

import (
	"bytes"
	"hash/crc32"
	"slices"
	"testing"

	"alibi/crc"
)

// divided is the check of b by the chapter's words: a row of digits, divided one by one.
func divided(b []byte) uint32 {
	var row []byte
	for _, c := range b {
		for k := range 8 {
			row = append(row, c>>k&1)
		}
	}
	row = append(row, make([]byte, 32)...)
	for i := range 32 {
		row[i] ^= 1
	}
	for i := range len(row) - 32 {
		if row[i] == 0 {
			continue
		}
		for _, power := range []int{32, 26, 23, 22, 16, 12, 11, 10, 8, 7, 5, 4, 2, 1, 0} {
			row[i+32-power] ^= 1
		}
	}
	var v uint32
	for k, digit := range row[len(row)-32:] {
		v |= uint32(digit^1) << k
	}
	return v
}

// mixed are n bytes of all kinds, the same ones each time.
func mixed(n int, seed uint32) []byte {
	b := make([]byte, n)
	for i := range b {
		seed = seed*1664525 + 1013904223
		b[i] = byte(seed >> 24)
	}
	return b
}

// cuts are all ways to cut b into rows that are not empty.
func cuts(b []byte) [][][]byte {
	if len(b) == 0 {
		return [][][]byte{nil}
	}
	var all [][][]byte
	for n := 1; n <= len(b); n++ {
		for _, rest := range cuts(b[n:]) {
			all = append(all, append([][]byte{b[:n]}, rest...))
		}
	}
	return all
}

// P2.1, the chapter's examples.
func TestSumExamples(t *testing.T) {
	for _, x := range []struct {
		l    [][]byte
		want uint32
	}{
		{[][]byte{[]byte("123456789")}, 0xCBF43926},
		{nil, 0},
		{[][]byte{[]byte("a")}, 0xE8B7BE43},
		{[][]byte{[]byte("a"), []byte("bc")}, 0x352441C2},
	} {
		if v := crc.Sum(x.l...); v != x.want {
			t.Errorf("%q: %08X, not %08X", x.l, v, x.want)
		}
	}
}

// P2.1: no rows, and rows of no bytes.
func TestSumOfNothing(t *testing.T) {
	for _, l := range [][][]byte{nil, {}, {nil}, {{}}, {nil, {}, nil}} {
		if v := crc.Sum(l...); v != 0 {
			t.Errorf("%v: %08X", l, v)
		}
	}
	if v := divided(nil); v != 0 {
		t.Errorf("by the words: %08X", v)
	}
}

// P2.1: all rows of one byte and of two, and rows of all lengths up to 80, by the chapter's words.
func TestSumByWords(t *testing.T) {
	check := func(b []byte) {
		t.Helper()
		if v, want := crc.Sum(b), divided(b); v != want {
			t.Fatalf("%v: %08X, not %08X", b, v, want)
		}
	}
	for i := range 256 {
		check([]byte{byte(i)})
		for j := range 256 {
			check([]byte{byte(i), byte(j)})
		}
	}
	for n := range 81 {
		check(make([]byte, n))
		check(bytes.Repeat([]byte{255}, n))
		check(bytes.Repeat([]byte{128}, n))
		for seed := range uint32(20) {
			check(mixed(n, seed))
		}
	}
}

// P2.1: it is CRC-32 of IEEE 802.3, of long rows, too.
func TestSumOfLongRows(t *testing.T) {
	for _, n := range []int{1000, 4095, 4096, 4097, 65536, 1 << 20} {
		for seed := range uint32(3) {
			b := mixed(n, seed)
			if v, want := crc.Sum(b), crc32.ChecksumIEEE(b); v != want {
				t.Errorf("%d bytes: %08X, not %08X", n, v, want)
			}
		}
	}
}

// P2.5: it counts for nothing how a row is cut, all ways of nine bytes, and with rows of no bytes between.
func TestSumCut(t *testing.T) {
	for _, b := range [][]byte{[]byte("123456789"), make([]byte, 9), mixed(9, 5), {255, 0, 128}} {
		want := crc.Sum(b)
		for _, l := range cuts(b) {
			if v := crc.Sum(l...); v != want {
				t.Errorf("%v: %08X, not %08X", l, v, want)
			}
			gaps := [][]byte{nil}
			for _, c := range l {
				gaps = append(gaps, c, nil, []byte{})
			}
			if v := crc.Sum(gaps...); v != want {
				t.Errorf("%v: %08X, not %08X", gaps, v, want)
			}
		}
	}
	long := mixed(5000, 1)
	want := crc.Sum(long)
	for i := range long {
		if v := crc.Sum(long[:i], long[i:]); v != want {
			t.Fatalf("cut at %d: %08X, not %08X", i, v, want)
		}
	}
}

// P2.1: the order of rows counts.
func TestSumOrder(t *testing.T) {
	a, b := []byte("a"), []byte("bc")
	if v, want := crc.Sum(b, a), divided([]byte("bca")); v != want || v == crc.Sum(a, b) {
		t.Errorf("%08X, not %08X", v, want)
	}
	if v, want := crc.Sum(a, a, a), divided([]byte("aaa")); v != want {
		t.Errorf("one row three times: %08X, not %08X", v, want)
	}
}

// flip turns about in a copy of b the digits of what, from the digit at on.
func flip(b []byte, at int, what uint32) []byte {
	b = bytes.Clone(b)
	for k := range 32 {
		if i := at + k; what>>k&1 == 1 {
			b[i/8] ^= 1 << (i % 8)
		}
	}
	return b
}

// bursts are rows of digits that differ, of each length up to 32: the ends alone, all, and some between.
func bursts() []uint32 {
	l := []uint32{1}
	for k := 1; k < 32; k++ {
		ends := uint32(1)<<k | 1
		l = append(l, ends, ends|(1<<k-1))
		for i := range uint32(12) {
			b := mixed(4, i*77+uint32(k))
			between := uint32(b[0]) | uint32(b[1])<<8 | uint32(b[2])<<16 | uint32(b[3])<<24
			l = append(l, ends|between&(1<<k-1))
		}
	}
	return l
}

// P2.5: bytes that differ in some digits, within 32 side by side, have another check, and are refused.
func TestSumTellsBursts(t *testing.T) {
	for n := 1; n <= 14; n++ {
		for _, b := range [][]byte{make([]byte, n), bytes.Repeat([]byte{255}, n), mixed(n, 3)} {
			was, stands := crc.Sum(b), crc.Put(b)[n:]
			for _, what := range bursts() {
				for at := range 8 * n {
					if at+32 > 8*n && what>>(8*n-at) != 0 {
						break
					}
					c := flip(b, at, what)
					if v := crc.Sum(c); v == was {
						t.Fatalf("%v, %v: both %08X", b, c, v)
					}
					checkRefused(t, append(c, stands...))
				}
			}
		}
	}
}

// P2.5: each one, and each two, of a longer row's digits that differ, within 32 side by side.
func TestSumTellsPairs(t *testing.T) {
	b := mixed(200, 9)
	was := crc.Sum(b)
	for at := range 8*len(b) - 31 {
		for k := range 32 {
			if v := crc.Sum(flip(b, at, 1|1<<k)); v == was {
				t.Fatalf("at %d and %d: %08X", at, at+k, v)
			}
		}
	}
}

// P2.5: of three rows of as many bytes, joined digit by digit, the check is that of their checks.
func TestSumJoined(t *testing.T) {
	for n := range 70 {
		for seed := range uint32(10) {
			a, b, c := mixed(n, seed), mixed(n, seed+100), mixed(n, seed*3+7)
			if seed == 0 {
				b = bytes.Clone(a)
			}
			all := make([]byte, n)
			for i := range all {
				all[i] = a[i] ^ b[i] ^ c[i]
			}
			if v, want := crc.Sum(all), crc.Sum(a)^crc.Sum(b)^crc.Sum(c); v != want {
				t.Errorf("%d bytes: %08X, not %08X", n, v, want)
			}
		}
	}
}

// P2.4: rows are only read, what lies behind their length included.
func TestSumOnlyReads(t *testing.T) {
	back := mixed(40, 1)
	was := bytes.Clone(back)
	l := [][]byte{back[:10], back[5:20], nil, back[30:35]}
	rows := slices.Clone(l)
	crc.Sum(l...)
	if !bytes.Equal(back, was) {
		t.Errorf("changed: %v", back)
	}
	for i := range l {
		if !bytes.Equal(l[i], rows[i]) || len(l[i]) != len(rows[i]) {
			t.Errorf("row %d changed: %v", i, l[i])
		}
	}
}
