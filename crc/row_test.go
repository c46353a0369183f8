package crc_test

import (
	"bytes"
	"testing"

	"alibi/crc"
)

// checkRow asks of a row whether it has just the bytes of b, twice: to ask changes nothing.
func checkRow(t *testing.T, s *crc.Row, b []byte) {
	t.Helper()
	want := divided(b)
	for range 2 {
		if v, n := s.Value(), s.Len(); v != want || n != len(b) {
			t.Errorf("%v: %08X of %d, not %08X", b, v, n, want)
		}
	}
}

// P2.3: a nil row, and whatever is asked of it.
func TestNilRow(t *testing.T) {
	var none *crc.Row
	none.Add()
	none.Add(1)
	none.Add(mixed(100, 1)...)
	if v, n := none.Value(), none.Len(); v != 0 || n != 0 {
		t.Errorf("%08X of %d", v, n)
	}
	if c := none.Copy(); c != nil {
		t.Errorf("Copy: %v", c)
	}
}

// P2.3: a zero row has no bytes, nor has one to which none were added, nor a copy of it.
func TestZeroRow(t *testing.T) {
	var zero crc.Row
	checkRow(t, &zero, nil)
	for _, s := range []*crc.Row{new(crc.Row), {}, zero.Copy(), zero.Copy().Copy()} {
		checkRow(t, s, nil)
		s.Add()
		s.Add(nil...)
		s.Add([]byte{}...)
		checkRow(t, s, nil)
		s.Add(0)
		checkRow(t, s, []byte{0})
	}
	checkRow(t, &zero, nil)
}

// P2.3: the check and the number of bytes after each Add.
func TestAdd(t *testing.T) {
	var s crc.Row
	var all []byte
	for i := range 60 {
		more := mixed(i%7, uint32(i))
		s.Add(more...)
		all = append(all, more...)
		checkRow(t, &s, all)
	}
	var nine crc.Row
	nine.Add([]byte("123456789")...)
	if v := nine.Value(); v != 0xCBF43926 || nine.Len() != 9 {
		t.Errorf("%08X of %d", v, nine.Len())
	}
}

// P2.3, P2.5: it counts for nothing how bytes are added, all ways of nine.
func TestAddCut(t *testing.T) {
	for _, b := range [][]byte{[]byte("123456789"), make([]byte, 9), {255, 0, 128}} {
		want := crc.Sum(b)
		for _, l := range cuts(b) {
			var s crc.Row
			for _, c := range l {
				s.Add(c...)
				s.Add()
			}
			if v := s.Value(); v != want || s.Len() != len(b) {
				t.Errorf("%v: %08X of %d, not %08X", l, v, s.Len(), want)
			}
		}
	}
}

// P2.3: many bytes, one by one, and all together.
func TestAddLong(t *testing.T) {
	b := mixed(100000, 8)
	var one, all crc.Row
	for _, c := range b {
		one.Add(c)
	}
	all.Add(b...)
	if want := crc.Sum(b); one.Value() != want || all.Value() != want || one.Len() != len(b) || all.Len() != len(b) {
		t.Errorf("%08X of %d, %08X of %d, not %08X", one.Value(), one.Len(), all.Value(), all.Len(), want)
	}
}

// P2.3: a copy has the same, and goes its own way; so does the one that it was made of.
func TestCopy(t *testing.T) {
	var s crc.Row
	s.Add(1, 2, 3)
	c := s.Copy()
	checkRow(t, c, []byte{1, 2, 3})
	c.Add(4)
	checkRow(t, &s, []byte{1, 2, 3})
	s.Add(5, 6)
	checkRow(t, c, []byte{1, 2, 3, 4})
	checkRow(t, &s, []byte{1, 2, 3, 5, 6})
	d, e := c.Copy(), c.Copy()
	d.Add(7)
	checkRow(t, c, []byte{1, 2, 3, 4})
	checkRow(t, d, []byte{1, 2, 3, 4, 7})
	checkRow(t, e, []byte{1, 2, 3, 4})
	if c == &s || d == c || d == e {
		t.Error("a copy is the row itself")
	}
}

// Two rows have nothing of each other, nor of calls of Sum between.
func TestRowsApart(t *testing.T) {
	var a, b crc.Row
	a.Add(1)
	crc.Sum([]byte{9, 9})
	b.Add(2)
	crc.Put([]byte{9})
	a.Add(3)
	checkRow(t, &a, []byte{1, 3})
	checkRow(t, &b, []byte{2})
}

// P2.4: bytes that are added are only read, and not kept.
func TestAddMemory(t *testing.T) {
	back := mixed(30, 3)
	was := bytes.Clone(back)
	var s crc.Row
	s.Add(back[:10]...)
	s.Add(back[5:12]...)
	if !bytes.Equal(back, was) {
		t.Errorf("changed: %v", back)
	}
	clear(back)
	checkRow(t, &s, append(bytes.Clone(was[:10]), was[5:12]...))
}
