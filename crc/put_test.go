package crc_test

import (
	"bytes"
	"testing"

	"alibi/api"
	"alibi/crc"
)

// standing is b with its check behind it, by the chapter's words: 4 bytes, the highest first.
func standing(b []byte) []byte {
	v := divided(b)
	return append(bytes.Clone(b), byte(v>>24), byte(v>>16), byte(v>>8), byte(v))
}

func checkPut(t *testing.T, want []byte, l ...[]byte) {
	t.Helper()
	if b := crc.Put(l...); !bytes.Equal(b, want) {
		t.Errorf("Put(%v): %v, not %v", l, b, want)
	}
}

func checkOpen(t *testing.T, b, want []byte) {
	t.Helper()
	if x, e := crc.Open(b); !bytes.Equal(x, want) || e != api.OK {
		t.Errorf("Open(%v): %v, %d, not %v", b, x, e, want)
	}
}

func checkRefused(t *testing.T, b []byte) {
	t.Helper()
	if x, e := crc.Open(b); len(x) != 0 || e != api.ErrCrc {
		t.Errorf("Open(%v): %v, %d", b, x, e)
	}
}

// P2.1, P2.2: the chapter's examples.
func TestPutExamples(t *testing.T) {
	if crc.Size != 4 {
		t.Errorf("Size: %d", crc.Size)
	}
	checkPut(t, []byte{97, 232, 183, 190, 67}, []byte("a"))
	checkOpen(t, []byte{97, 232, 183, 190, 67}, []byte("a"))
	for last := range 256 {
		if last != 67 {
			checkRefused(t, []byte{97, 232, 183, 190, byte(last)})
		}
	}
}

// P2.1: rows of all lengths up to 80; none, and rows of no bytes.
func TestPut(t *testing.T) {
	none := []byte{0, 0, 0, 0}
	checkPut(t, none)
	checkPut(t, none, nil)
	checkPut(t, none, []byte{})
	checkPut(t, none, nil, []byte{}, nil)
	for n := range 81 {
		for seed := range uint32(10) {
			b := mixed(n, seed)
			checkPut(t, standing(b), b)
		}
	}
}

// P2.1, P2.5: all ways to cut a row.
func TestPutCut(t *testing.T) {
	for _, b := range [][]byte{[]byte("123456789"), make([]byte, 7), {200, 0, 1}} {
		want := standing(b)
		for _, l := range cuts(b) {
			checkPut(t, want, l...)
			checkPut(t, want, append(append([][]byte{nil}, l...), []byte{})...)
		}
	}
	checkPut(t, standing([]byte("aaa")), []byte("a"), []byte("a"), []byte("a"))
	checkPut(t, standing([]byte("bca")), []byte("bc"), []byte("a"))
}

// P2.2: what was put is opened, of no bytes, too.
func TestOpenPut(t *testing.T) {
	checkOpen(t, []byte{0, 0, 0, 0}, nil)
	for n := range 81 {
		b := mixed(n, uint32(n))
		checkOpen(t, crc.Put(b), b)
		checkOpen(t, crc.Put(crc.Put(b)), crc.Put(b))
	}
	long := mixed(100000, 4)
	checkOpen(t, crc.Put(long[:70000], long[70000:]), long)
}

// P2.2: fewer than 4 bytes, whatever they are.
func TestOpenShort(t *testing.T) {
	for _, c := range []byte{0, 1, 255} {
		for n := range 4 {
			if x, e := crc.Open(bytes.Repeat([]byte{c}, n)); len(x) != 0 || e != api.ErrShort {
				t.Errorf("%d times %d: %v, %d", n, c, x, e)
			}
		}
	}
	whole := crc.Put([]byte("a"))
	for _, b := range [][]byte{nil, {}, whole[:3], whole[2:], whole[:0]} { // what lies behind the length is not there
		if x, e := crc.Open(b); len(x) != 0 || e != api.ErrShort {
			t.Errorf("%v: %v, %d", b, x, e)
		}
	}
}

// P2.2: each byte, as each other one; those of the check in each other order; bytes too few, and too many.
func TestOpenRefuses(t *testing.T) {
	for n := range 6 {
		good := crc.Put(mixed(n, 11))
		for i := range good {
			for d := 1; d < 256; d++ {
				b := bytes.Clone(good)
				b[i] ^= byte(d)
				checkRefused(t, b)
			}
		}
	}
	good := crc.Put([]byte("abc"))
	for i := range 4 {
		for j := range i {
			b := bytes.Clone(good)
			b[3+i], b[3+j] = b[3+j], b[3+i]
			checkRefused(t, b)
		}
	}
	for n := 4; n < len(good); n++ {
		checkRefused(t, good[:n])
	}
	checkRefused(t, good[1:])
	checkRefused(t, append(bytes.Clone(good), 0))
	checkRefused(t, []byte("abc\xc2\x41\x24\x35")) // the lowest first
	checkRefused(t, []byte{255, 255, 255, 255})
	checkRefused(t, append(make([]byte, 5), 0, 0, 0, 0))
}

// P2.4: what is put is only read, and what is answered is new memory.
func TestPutMemory(t *testing.T) {
	back := mixed(40, 2)
	was := bytes.Clone(back)
	one, two := crc.Put(back[:10]), crc.Put(back[:10], back[20:25])
	if !bytes.Equal(back, was) { // a check behind ten bytes would have had its place there
		t.Errorf("changed: %v", back)
	}
	clear(one)
	if !bytes.Equal(back, was) || !bytes.Equal(two[:10], was[:10]) {
		t.Errorf("shared: %v, %v", back, two)
	}
	clear(back)
	if !bytes.Equal(two, standing(append(bytes.Clone(was[:10]), was[20:25]...))) {
		t.Errorf("kept: %v", two)
	}
	again := crc.Put()
	clear(append(again, 9)[:4])
	checkPut(t, []byte{0, 0, 0, 0})
}

// P2.4: what is opened is only read, and what is answered is new memory.
func TestOpenMemory(t *testing.T) {
	good := crc.Put(mixed(20, 6))
	was := bytes.Clone(good)
	one, _ := crc.Open(good)
	two, _ := crc.Open(good)
	_ = append(one, 1, 2, 3, 4, 5)
	clear(one)
	if !bytes.Equal(good, was) || !bytes.Equal(two, was[:20]) {
		t.Errorf("shared: %v, %v", good, two)
	}
	clear(good)
	if !bytes.Equal(two, was[:20]) {
		t.Errorf("kept: %v", two)
	}
	none := []byte{0, 0, 0, 0}
	empty, _ := crc.Open(none)
	_ = append(empty, 7, 7)
	if !bytes.Equal(none, []byte{0, 0, 0, 0}) {
		t.Errorf("shared: %v", none)
	}
}
