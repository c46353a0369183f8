package frame_test

import (
	"bytes"
	"encoding/binary"
	"hash/crc32"
	"testing"

	"alibi/frame"
)

// standing is how a frame stands, by the chapter's words.
func standing(f frame.Frame) []byte {
	b := []byte{f.Kind}
	b = binary.AppendUvarint(b, uint64(len(f.Payload)))
	b = append(b, f.Payload...)
	return binary.LittleEndian.AppendUint32(b, crc32.ChecksumIEEE(b))
}

// mixed are n bytes of all kinds, the same ones each time.
func mixed(n int, seed uint32) []byte {
	b := make([]byte, n)
	for i := range b {
		seed = seed*1664525 + 1013904223
		b[i] = byte(seed >> 24)
	}
	return b
}

// several are frames of all kinds, of no bytes up to as many as take a length of three bytes.
func several() []frame.Frame {
	var l []frame.Frame
	for kind := range 256 {
		l = append(l, frame.Frame{Kind: byte(kind), Payload: mixed(kind, uint32(kind))})
	}
	for _, n := range []int{0, 0, 1, 126, 127, 128, 129, 16383, 16384, 70000} {
		l = append(l,
			frame.Frame{Kind: byte(n), Payload: mixed(n, 1)},
			frame.Frame{Payload: make([]byte, n)},
			frame.Frame{Kind: 255, Payload: bytes.Repeat([]byte{255}, n)})
	}
	return l
}

func checkPut(t *testing.T, want []byte, l ...frame.Frame) {
	t.Helper()
	if b := frame.Put(l...); !bytes.Equal(b, want) {
		t.Errorf("Put of %d frames: %v, not %v", len(l), b, want)
	}
}

// P3.1: frames whose bytes are written out here.
func TestPutWrittenOut(t *testing.T) {
	for _, x := range []struct {
		f    frame.Frame
		want []byte
	}{
		{frame.Frame{}, []byte{0, 0, 255, 18, 217, 65}},
		{frame.Frame{Kind: 'a'}, []byte{97, 0, 25, 72, 63, 61}},
		{frame.Frame{Kind: '1', Payload: []byte("3456789")}, []byte{49, 7, 51, 52, 53, 54, 55, 56, 57, 63, 100, 217, 6}},
		{frame.Frame{Kind: 255, Payload: []byte{1, 2, 3}}, []byte{255, 3, 1, 2, 3, 112, 198, 14, 180}},
	} {
		checkPut(t, x.want, x.f)
		if n := frame.Size(x.f); n != len(x.want) {
			t.Errorf("Size of %v: %d", x.f, n)
		}
	}
}

// P3.1: frames of all kinds, and of all lengths; nil and empty payloads mean the same.
func TestPut(t *testing.T) {
	for _, f := range several() {
		checkPut(t, standing(f), f)
	}
	for kind := range 256 {
		want := standing(frame.Frame{Kind: byte(kind)})
		checkPut(t, want, frame.Frame{Kind: byte(kind), Payload: nil})
		checkPut(t, want, frame.Frame{Kind: byte(kind), Payload: []byte{}})
	}
}

// P3.1: none, and many, one behind the other, in order, each with a check of its own.
func TestPutMany(t *testing.T) {
	checkPut(t, nil)
	checkPut(t, nil, nil...)
	checkPut(t, nil, []frame.Frame{}...)
	var all []byte
	l := several()
	for i, f := range l {
		all = append(all, standing(f)...)
		if i%40 == 0 || i == len(l)-1 {
			checkPut(t, all, l[:i+1]...)
		}
	}
	a, b := frame.Frame{Kind: 1, Payload: []byte{7}}, frame.Frame{Kind: 2}
	checkPut(t, append(standing(a), standing(b)...), a, b)
	checkPut(t, append(standing(b), standing(a)...), b, a)
	checkPut(t, bytes.Repeat(standing(b), 3), b, b, b)
}

// P3.1: the chapter's examples, and as many bytes as Put puts, about each length at which one byte more is taken.
func TestSize(t *testing.T) {
	if n := frame.Size(frame.Frame{}); n != 6 {
		t.Errorf("of no bytes: %d", n)
	}
	if n := frame.Size(frame.Frame{Kind: 9, Payload: make([]byte, 300)}); n != 307 {
		t.Errorf("of 300 bytes: %d", n)
	}
	for _, x := range [][2]int{{0, 6}, {1, 7}, {127, 133}, {128, 135}, {16383, 16390}, {16384, 16392}, {1<<21 - 1, 1<<21 + 7}, {1 << 21, 1<<21 + 9}} {
		if n := frame.Size(frame.Frame{Kind: byte(x[0]), Payload: make([]byte, x[0], x[0]+9)}); n != x[1] {
			t.Errorf("of %d bytes: %d, not %d", x[0], n, x[1])
		}
	}
	for _, f := range several() {
		if n := frame.Size(f); n != len(standing(f)) {
			t.Errorf("of %d bytes: %d", len(f.Payload), n)
		}
	}
}

// P3.1: each of some frames is the same as itself, and as its copy, and as no other one.
func TestSame(t *testing.T) {
	l := []frame.Frame{
		{}, {Kind: 1}, {Kind: 255}, {Payload: []byte{0}}, {Payload: []byte{1}}, {Payload: []byte{0, 0}}, {Payload: []byte{0, 1}}, {Payload: []byte{1, 0}},
		{Kind: 1, Payload: []byte{0}}, {Kind: 1, Payload: []byte{1}}, {Kind: 1, Payload: []byte{1, 2, 3}}, {Kind: 1, Payload: []byte{1, 2, 4}},
		{Kind: 1, Payload: make([]byte, 300)}, {Kind: 1, Payload: make([]byte, 301)}, {Kind: 2, Payload: make([]byte, 300)},
	}
	for i, a := range l {
		for j, b := range l {
			b.Payload = append(make([]byte, 0, len(b.Payload)+5), b.Payload...)
			if frame.Same(a, b) != (i == j) {
				t.Errorf("%d, %d: %v", i, j, i != j)
			}
		}
	}
	back := []byte{1, 2, 3}
	if frame.Same(frame.Frame{Payload: back[:2]}, frame.Frame{Payload: back}) {
		t.Error("what lies behind the length counts")
	}
	if !frame.Same(frame.Frame{Kind: 3}, frame.Frame{Kind: 3, Payload: []byte{}}) || !frame.Same(frame.Frame{Kind: 3, Payload: back[:0]}, frame.Frame{Kind: 3}) {
		t.Error("nil and empty are not the same")
	}
}

// P3.4: frames are only read, what lies behind their payloads' length included, and not kept.
func TestPutMemory(t *testing.T) {
	back := mixed(60, 3)
	was := bytes.Clone(back)
	l := []frame.Frame{{Kind: 1, Payload: back[:10]}, {Kind: 2, Payload: back[5:8]}, {Kind: 3, Payload: back[:0]}, {Kind: 4, Payload: back[50:]}}
	var want []byte
	for _, f := range l {
		want = append(want, standing(f)...)
	}
	one, two := frame.Put(l...), frame.Put(l...)
	frame.Size(l[0])
	frame.Same(l[0], l[1])
	if !bytes.Equal(back, was) {
		t.Errorf("changed: %v", back)
	}
	for i, n := range []int{10, 3, 0, 10} {
		if l[i].Kind != byte(i+1) || len(l[i].Payload) != n {
			t.Errorf("frame %d changed: %v", i, l[i])
		}
	}
	clear(one)
	_ = append(one, 9, 9, 9)
	if !bytes.Equal(back, was) || !bytes.Equal(two, want) {
		t.Errorf("shared: %v, %v", back, two)
	}
	clear(back)
	if !bytes.Equal(two, want) {
		t.Errorf("kept: %v", two)
	}
}
