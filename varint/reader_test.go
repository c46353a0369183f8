package varint_test

import (
	"bytes"
	"math"
	"slices"
	"strconv"
	"testing"

	"alibi/api"
	"alibi/varint"
)

func checkReader(t *testing.T, what string, r *varint.Reader, at, left int, e api.Errno) {
	t.Helper()
	if r.At() != at || r.Left() != left || r.Err() != e {
		t.Errorf("%s: at %d, left %d, error %d, not %d, %d, %d", what, r.At(), r.Left(), r.Err(), at, left, e)
	}
}

// P1.3: all that can be read, in order.
func TestRead(t *testing.T) {
	b := []byte{172, 2, 0, 1, 128, 1, 2, 8, 9, 0, 10, 11, 12, 5}
	r := varint.Read(b)
	checkReader(t, "first", r, 0, 14, api.OK)
	if v := r.Number(); v != 300 {
		t.Errorf("Number: %d", v)
	}
	checkReader(t, "Number", r, 2, 12, api.OK)
	if l := r.Numbers(3); !slices.Equal(l, []uint64{0, 1, 128}) {
		t.Errorf("Numbers: %v", l)
	}
	checkReader(t, "Numbers", r, 6, 8, api.OK)
	if l := r.Text(); !bytes.Equal(l, []byte{8, 9}) {
		t.Errorf("Text: %v", l)
	}
	checkReader(t, "Text", r, 9, 5, api.OK)
	if l := r.Text(); len(l) != 0 {
		t.Errorf("empty Text: %v", l)
	}
	checkReader(t, "empty Text", r, 10, 4, api.OK)
	if l := r.Raw(3); !bytes.Equal(l, []byte{10, 11, 12}) {
		t.Errorf("Raw: %v", l)
	}
	checkReader(t, "Raw", r, 13, 1, api.OK)
	if l, n := r.Raw(0), r.Numbers(0); len(l) != 0 || len(n) != 0 {
		t.Errorf("none: %v, %v", l, n)
	}
	checkReader(t, "none", r, 13, 1, api.OK)
	if v := r.Number(); v != 5 {
		t.Errorf("last: %d", v)
	}
	checkReader(t, "last", r, 14, 0, api.OK)
	if l, n := r.Raw(0), r.Numbers(0); len(l) != 0 || len(n) != 0 {
		t.Errorf("none at the end: %v, %v", l, n)
	}
	checkReader(t, "end", r, 14, 0, api.OK)
}

// P1.3, P1.6: what a writer wrote, of each length.
func TestReadWritten(t *testing.T) {
	var w varint.Writer
	long := bytes.Repeat([]byte{200}, 300)
	w.Number(edges()...)
	w.Text(long)
	w.Number(math.MaxUint64)
	w.Raw(long...)
	r := varint.Read(w.Bytes())
	if l := r.Numbers(len(edges())); !slices.Equal(l, edges()) {
		t.Errorf("Numbers: %v", l)
	}
	if b := r.Text(); !bytes.Equal(b, long) {
		t.Errorf("Text: %v", b)
	}
	if v := r.Number(); v != math.MaxUint64 {
		t.Errorf("Number: %d", v)
	}
	if b := r.Raw(300); !bytes.Equal(b, long) {
		t.Errorf("Raw: %v", b)
	}
	checkReader(t, "end", r, w.Len(), 0, api.OK)
}

// P1.3: each call may read just up to the end.
func TestReadToEnd(t *testing.T) {
	for i, x := range []struct {
		b    []byte
		read func(r *varint.Reader) []byte
		want []byte
	}{
		{[]byte{2, 8, 9}, func(r *varint.Reader) []byte { return r.Text() }, []byte{8, 9}},
		{[]byte{0}, func(r *varint.Reader) []byte { return r.Text() }, nil},
		{[]byte{8, 9}, func(r *varint.Reader) []byte { return r.Raw(2) }, []byte{8, 9}},
		{[]byte{172, 2}, func(r *varint.Reader) []byte { return varint.Put(r.Number()) }, []byte{172, 2}},
		{[]byte{172, 2}, func(r *varint.Reader) []byte { return varint.Put(r.Numbers(1)[0]) }, []byte{172, 2}},
	} {
		r := varint.Read(x.b)
		if b := x.read(r); !bytes.Equal(b, x.want) {
			t.Errorf("%d: %v", i, b)
		}
		checkReader(t, strconv.Itoa(i), r, len(x.b), 0, api.OK)
	}
}

// ask does one of a reader's calls, and tells whether it told nothing.
type ask struct {
	name string
	do   func(r *varint.Reader) bool
}

func asks() []ask {
	l := []ask{
		{"Number", func(r *varint.Reader) bool { return r.Number() == 0 }},
		{"Text", func(r *varint.Reader) bool { return len(r.Text()) == 0 }},
	}
	for _, n := range []int{math.MinInt, -1, 0, 1, 2, 3, 1 << 40, math.MaxInt} {
		of := "(" + strconv.Itoa(n) + ")"
		l = append(l,
			ask{"Numbers" + of, func(r *varint.Reader) bool { return len(r.Numbers(n)) == 0 }},
			ask{"Raw" + of, func(r *varint.Reader) bool { return len(r.Raw(n)) == 0 }})
	}
	return l
}

// P1.4: which error a call comes to that can't be done; the reader stays where it was ahead of it.
func TestFirstError(t *testing.T) {
	huge := func(v uint64) []byte { return append(varint.Put(v), 1, 2, 3) }
	number := func(r *varint.Reader) { r.Number() }
	text := func(r *varint.Reader) { r.Text() }
	numbers := func(n int) func(r *varint.Reader) { return func(r *varint.Reader) { r.Numbers(n) } }
	raw := func(n int) func(r *varint.Reader) { return func(r *varint.Reader) { r.Raw(n) } }
	for i, x := range []struct {
		b    []byte // behind a 7, which is read ahead
		do   func(r *varint.Reader)
		want api.Errno
	}{
		{nil, number, api.ErrShort},
		{[]byte{128}, number, api.ErrShort},
		{[]byte{128, 0}, number, api.ErrVarint},
		{bytes.Repeat([]byte{128}, 9), number, api.ErrShort},
		{bytes.Repeat([]byte{128}, 10), number, api.ErrVarint},
		{[]byte{1, 2}, numbers(-1), api.ErrArg},
		{[]byte{1, 2}, numbers(math.MinInt), api.ErrArg},
		{nil, numbers(-1), api.ErrArg},
		{nil, numbers(1), api.ErrShort},
		{[]byte{1, 2}, numbers(3), api.ErrShort},
		{[]byte{1, 2}, numbers(math.MaxInt), api.ErrShort},
		{[]byte{1, 172}, numbers(2), api.ErrShort},
		{[]byte{1, 128, 0}, numbers(math.MaxInt), api.ErrVarint}, // there are too few, but that comes behind
		{[]byte{1, 128, 0}, numbers(2), api.ErrVarint},
		{[]byte{1, 2}, raw(-1), api.ErrArg},
		{[]byte{1, 2}, raw(math.MinInt), api.ErrArg},
		{[]byte{1, 2}, raw(3), api.ErrShort},
		{[]byte{1, 2}, raw(math.MaxInt), api.ErrShort},
		{nil, raw(1), api.ErrShort},
		{nil, text, api.ErrShort},
		{[]byte{1}, text, api.ErrShort},
		{[]byte{4, 1, 2, 3}, text, api.ErrShort},
		{[]byte{128}, text, api.ErrShort},
		{[]byte{129, 0, 1}, text, api.ErrVarint},
		{huge(1<<31 - 1), text, api.ErrShort},
		{huge(1<<63 - 1), text, api.ErrShort},
		{huge(1 << 63), text, api.ErrShort},
		{huge(math.MaxUint64), text, api.ErrShort},
	} {
		r := varint.Read(append([]byte{7}, x.b...))
		r.Number()
		x.do(r)
		checkReader(t, strconv.Itoa(i), r, 1, len(x.b), x.want)
	}
}

// P1.4: calls that can't be done tell nothing; each call behind the first error, too, and the error stays.
func TestBehindError(t *testing.T) {
	for _, first := range []struct {
		b    []byte
		do   func(r *varint.Reader) bool
		want api.Errno
	}{
		{[]byte{1, 2, 3, 4}, func(r *varint.Reader) bool { return len(r.Raw(-1)) == 0 }, api.ErrArg},
		{[]byte{1, 2, 3, 4}, func(r *varint.Reader) bool { return len(r.Numbers(-1)) == 0 }, api.ErrArg},
		{[]byte{1, 2, 3, 4}, func(r *varint.Reader) bool { return len(r.Raw(4)) == 0 }, api.ErrShort},
		{[]byte{1, 2, 3, 4}, func(r *varint.Reader) bool { return len(r.Numbers(4)) == 0 }, api.ErrShort},
		{[]byte{1, 4, 3, 4}, func(r *varint.Reader) bool { return len(r.Text()) == 0 }, api.ErrShort},
		{[]byte{1, 2, 128, 0, 5}, func(r *varint.Reader) bool { return len(r.Numbers(2)) == 0 }, api.ErrVarint},
		{[]byte{1, 128, 0, 5}, func(r *varint.Reader) bool { return r.Number() == 0 }, api.ErrVarint},
		{[]byte{1, 128, 0, 5}, func(r *varint.Reader) bool { return len(r.Text()) == 0 }, api.ErrVarint},
	} {
		r := varint.Read(first.b)
		r.Number()
		if !first.do(r) {
			t.Error("the first one told something")
		}
		checkReader(t, "the first one", r, 1, len(first.b)-1, first.want)
		for _, a := range asks() {
			if !a.do(r) {
				t.Errorf("%s told something", a.name)
			}
			checkReader(t, a.name, r, 1, len(first.b)-1, first.want)
		}
	}
}

// The promises' word of nil and zero readers, and of those of no bytes.
func TestNoReader(t *testing.T) {
	for _, a := range asks() {
		var none *varint.Reader
		if !a.do(none) {
			t.Errorf("nil: %s told something", a.name)
		}
		checkReader(t, "nil", none, 0, 0, api.ErrNil)
		for i, r := range []*varint.Reader{{}, varint.Read(nil), varint.Read([]byte{})} {
			checkReader(t, "new", r, 0, 0, api.OK)
			if !a.do(r) {
				t.Errorf("%d: %s told something", i, a.name)
			}
			want := api.ErrShort
			switch a.name {
			case "Raw(0)", "Numbers(0)":
				want = api.OK
			case "Raw(-1)", "Numbers(-1)", "Raw(" + strconv.Itoa(math.MinInt) + ")", "Numbers(" + strconv.Itoa(math.MinInt) + ")":
				want = api.ErrArg
			}
			checkReader(t, strconv.Itoa(i)+" "+a.name, r, 0, 0, want)
		}
	}
}

// P1.5: a reader reads what b was; b is not changed.
func TestReaderKeepsCopy(t *testing.T) {
	back := []byte{1, 2, 5, 6, 9, 9, 9}
	r := varint.Read(back[:6])
	if r.Left() != 6 {
		t.Errorf("left: %d", r.Left())
	}
	clear(back)
	if v, b, c := r.Number(), r.Text(), r.Raw(2); v != 1 || !bytes.Equal(b, []byte{5, 6}) || !bytes.Equal(c, []byte{9, 9}) {
		t.Errorf("%d, %v, %v", v, b, c)
	}
	checkReader(t, "copy", r, 6, 0, api.OK)
	fixed := []byte{1, 172, 2, 1, 7, 8}
	was := bytes.Clone(fixed)
	q := varint.Read(fixed)
	q.Numbers(2)
	q.Text()
	q.Raw(1)
	q.Number()
	if !bytes.Equal(fixed, was) {
		t.Errorf("changed: %v", fixed)
	}
}

// P1.5: what a reader answers is new memory: nothing that is done to it is read later.
func TestReaderAnswersCopies(t *testing.T) {
	b := []byte{1, 2, 3, 2, 4, 5, 6, 7}
	r := varint.Read(b)
	one := r.Raw(3)
	clear(one)
	_ = append(one, 99, 99)
	two := r.Text()
	clear(two)
	_ = append(two, 99, 99)
	if l := r.Numbers(2); !slices.Equal(l, []uint64{6, 7}) {
		t.Errorf("read later: %v", l)
	}
	if !bytes.Equal(b, []byte{1, 2, 3, 2, 4, 5, 6, 7}) {
		t.Errorf("changed: %v", b)
	}
}

// Two readers of the same bytes have nothing of each other.
func TestReadersApart(t *testing.T) {
	b := []byte{1, 2, 128, 0}
	p, q := varint.Read(b), varint.Read(b)
	p.Numbers(2)
	p.Number()
	checkReader(t, "one", p, 2, 2, api.ErrVarint)
	checkReader(t, "the other", q, 0, 4, api.OK)
	if v := q.Number(); v != 1 {
		t.Errorf("%d", v)
	}
}
