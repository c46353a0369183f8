package varint_test

import (
	"bytes"
	"testing"

	"alibi/api"
	"alibi/varint"
)

func checkWriter(t *testing.T, w *varint.Writer, want []byte) {
	t.Helper()
	if b := w.Bytes(); !bytes.Equal(b, want) {
		t.Errorf("Bytes: %v, not %v", b, want)
	}
	if n := w.Len(); n != len(want) {
		t.Errorf("Len: %d, not %d", n, len(want))
	}
}

// P1.2: each call's bytes come behind those that are there.
func TestWrite(t *testing.T) {
	var w varint.Writer
	var want []byte
	checkWriter(t, &w, want)
	for i, x := range []struct {
		e    api.Errno
		more []byte
	}{
		{w.Number(0), []byte{0}},
		{w.Number(128, 300, 1<<64-1, 5), []byte{128, 1, 172, 2, 255, 255, 255, 255, 255, 255, 255, 255, 255, 1, 5}},
		{w.Raw(200, 0, 128), []byte{200, 0, 128}},
		{w.Text([]byte{6, 255}), []byte{2, 6, 255}},
		{w.Text(nil), []byte{0}},
		{w.Text([]byte{}), []byte{0}},
		{w.Number(), nil},
		{w.Raw(), nil},
		{w.Number(1), []byte{1}},
	} {
		if x.e != api.OK {
			t.Errorf("%d: %d", i, x.e)
		}
		want = append(want, x.more...)
	}
	checkWriter(t, &w, want)
}

// P1.2: after each call, and each number as Put puts it.
func TestWriteNumbers(t *testing.T) {
	var w varint.Writer
	var want []byte
	for _, v := range edges() {
		if e := w.Number(v); e != api.OK {
			t.Errorf("%d: %d", v, e)
		}
		want = append(want, varint.Put(v)...)
		checkWriter(t, &w, want)
	}
	var all varint.Writer
	all.Number(edges()...)
	checkWriter(t, &all, want)
}

// P1.2: texts whose number of bytes takes one byte, two, and three.
func TestWriteTexts(t *testing.T) {
	for _, n := range []int{0, 1, 127, 128, 300, 16383, 16384} {
		text := bytes.Repeat([]byte{129}, n)
		var w varint.Writer
		if e := w.Text(text); e != api.OK {
			t.Errorf("%d: %d", n, e)
		}
		checkWriter(t, &w, append(varint.Put(uint64(n)), text...))
	}
}

// The promises' word of nil and zero writers.
func TestNoWriter(t *testing.T) {
	var none *varint.Writer
	for i, e := range []api.Errno{none.Number(), none.Number(1), none.Raw(), none.Raw(1), none.Text(nil), none.Text([]byte{1})} {
		if e != api.ErrNil {
			t.Errorf("nil, %d: %d", i, e)
		}
	}
	checkWriter(t, none, nil)
	checkWriter(t, &varint.Writer{}, nil)
	checkWriter(t, new(varint.Writer), nil)
}

// P1.5: what is handed in is not changed, nor kept.
func TestWriterKeepsCopies(t *testing.T) {
	back := []byte{1, 2, 3, 4}
	numbers := []uint64{7, 300, 9}
	var w varint.Writer
	w.Raw(back[:2]...)
	w.Text(back[:3])
	w.Number(numbers[:2]...)
	if !bytes.Equal(back, []byte{1, 2, 3, 4}) || numbers[0] != 7 || numbers[1] != 300 || numbers[2] != 9 {
		t.Errorf("changed: %v, %v", back, numbers)
	}
	clear(back)
	clear(numbers)
	checkWriter(t, &w, []byte{1, 2, 3, 1, 2, 3, 7, 172, 2})
}

// P1.5: the first bytes of a writer are copies, too.
func TestWriterKeepsFirst(t *testing.T) {
	back := make([]byte, 3, 100)
	var w varint.Writer
	w.Raw(back...)
	w.Raw(5, 6)
	if rest := back[3:5]; rest[0] != 0 || rest[1] != 0 {
		t.Errorf("written behind the length: %v", rest)
	}
	back[0] = 9
	checkWriter(t, &w, []byte{0, 0, 0, 5, 6})
}

// P1.5: bytes that are answered are new ones each time, and stay what they were.
func TestWriterAnswersCopies(t *testing.T) {
	var w varint.Writer
	w.Number(1, 2, 3)
	one, two := w.Bytes(), w.Bytes()
	w.Raw(4)
	one[0] = 99
	_ = append(one, 98)
	if !bytes.Equal(two, []byte{1, 2, 3}) {
		t.Errorf("another answer: %v", two)
	}
	checkWriter(t, &w, []byte{1, 2, 3, 4})
	w.Raw(w.Bytes()...)
	w.Text(w.Bytes()[:2])
	checkWriter(t, &w, []byte{1, 2, 3, 4, 1, 2, 3, 4, 2, 1, 2})
}

// Two writers have nothing of each other.
func TestWritersApart(t *testing.T) {
	var a, b varint.Writer
	a.Number(1)
	b.Number(2)
	a.Text([]byte{3})
	b.Raw(4)
	checkWriter(t, &a, []byte{1, 1, 3})
	checkWriter(t, &b, []byte{2, 4})
}
