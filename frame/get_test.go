package frame_test

import (
	"bytes"
	"encoding/binary"
	"math"
	"slices"
	"testing"

	"alibi/api"
	"alibi/crc"
	"alibi/frame"
)

// number is the number that b begins with, and how many bytes it has, by the words of chapter 1; or a rule.
func number(b []byte) (uint64, int, api.Rule) {
	for n := 1; n <= 10; n++ {
		if n > len(b) {
			return 0, 0, api.Cut
		}
		if b[n-1] < 128 {
			v, got := binary.Uvarint(b[:n])
			if got != n || n > 1 && b[n-1] == 0 {
				return 0, 0, api.Length
			}
			return v, n, api.Right
		}
	}
	return 0, 0, api.Length
}

// judged is what Get is to answer, by the chapter's words.
func judged(b []byte, at int) (frame.Frame, int, api.Rule) {
	if at < 0 || at >= len(b) {
		return frame.Frame{}, 0, api.Cut
	}
	v, n, r := number(b[at+1:])
	if r != api.Right {
		return frame.Frame{}, 0, r
	}
	rest := b[at+1+n:]
	if len(rest) < 4 || v > uint64(len(rest)-4) {
		return frame.Frame{}, 0, api.Cut
	}
	f := frame.Frame{Kind: b[at], Payload: rest[:v]}
	if s := standing(f); bytes.HasPrefix(b[at:], s) {
		return f, at + len(s), api.Right
	}
	return frame.Frame{}, 0, api.Check
}

func checkGet(t *testing.T, b []byte, at int) {
	t.Helper()
	f, next, r := frame.Get(b, at)
	wf, wnext, wr := judged(b, at)
	if !frame.Same(f, wf) || next != wnext || r != wr {
		t.Errorf("Get(%v, %d): %v, %d, %d, not %v, %d, %d", b, at, f, next, r, wf, wnext, wr)
	}
}

func checkRefused(t *testing.T, b []byte, at int, want api.Rule) {
	t.Helper()
	if f, next, r := frame.Get(b, at); f.Kind != 0 || len(f.Payload) != 0 || next != 0 || r != want {
		t.Errorf("Get(%v, %d): %v, %d, %d, not %d", b, at, f, next, r, want)
	}
}

// P3.2, P3.5: what was put is got as it was, wherever it stands.
func TestGetPut(t *testing.T) {
	for _, f := range several() {
		b := standing(f)
		for _, ahead := range []int{0, 1, 7} {
			for _, behind := range []int{0, 1, 40} {
				all := slices.Concat(mixed(ahead, 4), b, mixed(behind, 5))
				x, next, r := frame.Get(all, ahead)
				if x.Kind != f.Kind || !bytes.Equal(x.Payload, f.Payload) || next != ahead+len(b) || r != api.Right {
					t.Errorf("kind %d, %d bytes, behind %d, ahead of %d: %d, %d", f.Kind, len(f.Payload), ahead, behind, next, r)
				}
			}
		}
	}
}

// P3.2, P3.5: all frames of many, each got from where the last one ended.
func TestGetInOrder(t *testing.T) {
	l := several()
	b := frame.Put(l...)
	at := 0
	for i, f := range l {
		x, next, r := frame.Get(b, at)
		if !frame.Same(x, f) || next != at+frame.Size(f) || r != api.Right {
			t.Fatalf("%d: %d, %d", i, next, r)
		}
		at = next
	}
	checkRefused(t, b, at, api.Cut)
}

// P3.2: places that are none, and nothing.
func TestGetPlaces(t *testing.T) {
	b := frame.Put(frame.Frame{Kind: 5, Payload: []byte{1, 2, 3}})
	for _, at := range []int{-1, -2, -len(b), math.MinInt, len(b), len(b) + 1, 2 * len(b), math.MaxInt - 1, math.MaxInt} {
		checkRefused(t, b, at, api.Cut)
		checkRefused(t, nil, at, api.Cut)
		checkRefused(t, b[:0], at, api.Cut)
	}
	checkRefused(t, nil, 0, api.Cut)
	checkRefused(t, b[:0], 0, api.Cut)
	for at := range b {
		checkGet(t, b, at)
	}
}

// P3.2: each of a frame's beginnings is cut; what lies behind the length is not there.
func TestGetCut(t *testing.T) {
	for _, n := range []int{0, 1, 3, 127, 128, 300, 16384} {
		b := frame.Put(frame.Frame{Kind: byte(n), Payload: mixed(n, 2)})
		for to := range b {
			checkRefused(t, b[:to], 0, api.Cut)
		}
		wrong := bytes.Clone(b)
		wrong[0] ^= 1 // cut comes ahead of the check
		checkRefused(t, wrong[:len(b)-1], 0, api.Cut)
		checkRefused(t, wrong, 0, api.Check)
	}
}

// P3.2: bytes that are no number's are no length, whether or not there is anything behind.
func TestGetLength(t *testing.T) {
	for _, x := range []struct {
		length []byte
		want   api.Rule
	}{
		{[]byte{128, 0}, api.Length}, // the chapter's example
		{[]byte{255, 0}, api.Length},
		{[]byte{128, 128, 0}, api.Length},
		{[]byte{129, 128, 128, 0}, api.Length},
		{append(bytes.Repeat([]byte{255}, 9), 0), api.Length},
		{append(bytes.Repeat([]byte{255}, 9), 2), api.Length},
		{append(bytes.Repeat([]byte{128}, 9), 127), api.Length},
		{bytes.Repeat([]byte{128}, 10), api.Length},
		{bytes.Repeat([]byte{255}, 10), api.Length},
		{bytes.Repeat([]byte{255}, 11), api.Length},
		{append(bytes.Repeat([]byte{255}, 9), 1), api.Cut},
		{append(bytes.Repeat([]byte{128}, 9), 1), api.Cut},
		{append(bytes.Repeat([]byte{255}, 8), 127), api.Cut},
	} {
		for _, kind := range []byte{0, 1, 128, 255} {
			b := append([]byte{kind}, x.length...)
			checkRefused(t, b, 0, x.want)
			checkRefused(t, append(b, 0, 0, 0, 0, 0, 0), 0, x.want)
			checkRefused(t, append([]byte{7}, b...), 1, x.want)
		}
	}
	for n := range 10 { // the length's last byte is not there
		checkRefused(t, append([]byte{1}, bytes.Repeat([]byte{128}, n)...), 0, api.Cut)
		checkRefused(t, append([]byte{1}, bytes.Repeat([]byte{255}, n)...), 0, api.Cut)
	}
}

// P3.2: a length in another form than a number's is no length, though all else is right.
func TestGetLengthOtherForm(t *testing.T) {
	for n := range 5 {
		b := append([]byte{9, 128 + byte(n), 0}, mixed(n, 8)...)
		b = binary.LittleEndian.AppendUint32(b, crc.Sum(b))
		checkRefused(t, b, 0, api.Length)
	}
}

// P3.2: lengths of more bytes than there are, those that are huge included; and just as many.
func TestGetLong(t *testing.T) {
	for _, v := range []uint64{4, 5, 100, 1<<31 - 1, 1 << 31, 1 << 32, 1<<32 + 3, 1<<63 - 5, 1<<63 - 1, 1 << 63, 1<<63 + 3, math.MaxUint64 - 10, math.MaxUint64 - 3, math.MaxUint64} {
		b := binary.AppendUvarint([]byte{6}, v)
		b = append(b, make([]byte, 7)...) // three, and a check
		checkRefused(t, b, 0, api.Cut)
		checkRefused(t, b[:len(b)-7], 0, api.Cut)
		checkRefused(t, b[:len(b)-4], 0, api.Cut)
	}
	for v := range uint64(4) {
		b := append(binary.AppendUvarint([]byte{6}, v), make([]byte, v+4)...)
		checkRefused(t, b, 0, api.Check)
		checkRefused(t, b[:len(b)-1], 0, api.Cut)
	}
}

// P3.2: each byte of a frame as each other one, the length's too.
func TestGetOneByte(t *testing.T) {
	for _, n := range []int{0, 1, 5, 200} {
		good := frame.Put(frame.Frame{Kind: 3, Payload: mixed(n, 6)})
		for i := range good {
			for d := 1; d < 256; d++ {
				b := bytes.Clone(good)
				b[i] ^= byte(d)
				checkGet(t, b, 0)
				if _, _, r := frame.Get(b, 0); r == api.Right {
					t.Errorf("%v: not refused", b)
				}
			}
		}
	}
}

// P3.2: checks that stand the other way round, or are of fewer bytes, or of more, or of none.
func TestGetOtherCheck(t *testing.T) {
	payload := []byte{4, 5, 6}
	head := append([]byte{9, 3}, payload...)
	checkRefused(t, crc.Put(head), 0, api.Check) // the highest byte first
	for _, v := range []uint32{crc.Sum(payload), crc.Sum(head[1:]), crc.Sum([]byte{9}, payload), crc.Sum(head[:2]), crc.Sum([]byte{0}, head), crc.Sum(head, []byte{0}), ^crc.Sum(head), 0, math.MaxUint32} {
		checkRefused(t, binary.LittleEndian.AppendUint32(bytes.Clone(head), v), 0, api.Check)
	}
	b := frame.Put(frame.Frame{Kind: 9, Payload: payload})
	checkRefused(t, append([]byte{1}, b[1:]...), 0, api.Check)
	if f, next, r := frame.Get(append([]byte{77}, b...), 1); !frame.Same(f, frame.Frame{Kind: 9, Payload: payload}) || next != 10 || r != api.Right {
		t.Errorf("what is ahead counts: %v, %d, %d", f, next, r)
	}
}

// P3.2: all rows of up to seven bytes out of some, at all places.
func TestGetAllShort(t *testing.T) {
	some := []byte{0, 1, 127, 128, 255}
	var row []byte
	var each func()
	each = func() {
		for at := -1; at <= len(row); at++ {
			checkGet(t, row, at)
		}
		if len(row) == 7 {
			return
		}
		for _, c := range some {
			row = append(row, c)
			each()
			row = row[:len(row)-1]
		}
	}
	each()
}

// P3.5: up to four bytes side by side of what stands behind the length, other ones: each place, among them across the check's beginning.
func TestGetTellsBursts(t *testing.T) {
	for _, n := range []int{0, 1, 2, 3, 4, 9, 130} {
		for seed := range uint32(3) {
			f := frame.Frame{Kind: byte(seed), Payload: mixed(n, seed)}
			good := frame.Put(f)
			behind := len(good) - 4 - n
			for from := behind; from < len(good); from++ {
				for many := 1; many <= 4 && from+many <= len(good); many++ {
					checkBursts(t, good, from, many)
				}
			}
		}
	}
}

// checkBursts changes so many bytes of a frame, in many ways.
func checkBursts(t *testing.T, good []byte, from, many int) {
	t.Helper()
	for i := range uint32(60) {
		d := mixed(many, i*31+uint32(from))
		switch i {
		case 0:
			d = bytes.Repeat([]byte{255}, many)
		case 1:
			d = bytes.Repeat([]byte{128}, many)
		}
		d[0] |= 1
		b := bytes.Clone(good)
		for k := range d {
			b[from+k] ^= d[k]
		}
		checkRefused(t, b, 0, api.Check)
	}
}

// P3.5: four bytes side by side, all places of a short frame across the check's beginning and around, in many ways.
func TestGetTellsAcross(t *testing.T) {
	good := frame.Put(frame.Frame{Kind: 1, Payload: []byte{10, 20, 30}})
	for at := 2; at <= 5; at++ {
		for v := range 1 << 12 {
			b := bytes.Clone(good)
			b[at] ^= byte(v) | 1
			b[at+1] ^= byte(v >> 8 * 17)
			b[at+2] ^= byte(v >> 4)
			b[at+3] ^= byte(v>>3) | 128
			checkRefused(t, b, 0, api.Check)
		}
	}
}

// P3.4: bytes are only read, what lies behind their length included, and not kept; what is got is new memory.
func TestGetMemory(t *testing.T) {
	back := append(frame.Put(frame.Frame{Kind: 1, Payload: mixed(20, 1)}, frame.Frame{Kind: 2}), mixed(30, 2)...)
	was := bytes.Clone(back)
	b := back[:len(back)-30]
	one, next, _ := frame.Get(b, 0)
	two, _, _ := frame.Get(b, 0)
	none, _, r := frame.Get(b, next)
	frame.Get(b, 3)
	frame.Get(b, len(b))
	if r != api.Right || !bytes.Equal(back, was) {
		t.Errorf("%d, changed: %v", r, back)
	}
	clear(one.Payload)
	_ = append(one.Payload, 99, 99, 99)
	_ = append(none.Payload, 99, 99, 99)
	if !bytes.Equal(back, was) || !bytes.Equal(two.Payload, mixed(20, 1)) {
		t.Errorf("shared: %v, %v", back, two)
	}
	clear(back)
	if !bytes.Equal(two.Payload, mixed(20, 1)) || two.Kind != 1 {
		t.Errorf("kept: %v", two)
	}
}
