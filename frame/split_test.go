package frame_test

import (
	"bytes"
	"slices"
	"testing"

	"alibi/api"
	"alibi/frame"
)

// step is what one turn of a loop over All tells.
type step struct {
	p frame.Placed
	r api.Rule
}

func sameStep(a, b step) bool {
	return frame.Same(a.p.Frame, b.p.Frame) && a.p.From == b.p.From && a.p.To == b.p.To && a.r == b.r
}

// told are the turns of a loop over All, at most some, so that a loop without an end is seen.
func told(b []byte) []step {
	var l []step
	for p, r := range frame.All(b) {
		l = append(l, step{p, r})
		if len(l) > len(b)+2 {
			break
		}
	}
	return l
}

// toldByWords are the turns that the chapter's words ask for.
func toldByWords(b []byte) []step {
	var l []step
	for at := 0; at < len(b); {
		f, next, r := judged(b, at)
		if r != api.Right {
			return append(l, step{frame.Placed{From: at}, r})
		}
		l = append(l, step{frame.Placed{Frame: f, From: at, To: next}, r})
		at = next
	}
	return l
}

// checkAll asks All and Split of b, and holds both against the chapter's words.
func checkAll(t *testing.T, b []byte) {
	t.Helper()
	want := toldByWords(b)
	if got := told(b); !slices.EqualFunc(got, want, sameStep) {
		t.Errorf("All(%v): %v, not %v", b, got, want)
	}
	place, rule := len(b), api.Right
	if n := len(want) - 1; n >= 0 && want[n].r != api.Right {
		place, rule = want[n].p.From, want[n].r
		want = want[:n]
	}
	l, at, r := frame.Split(b)
	if at != place || r != rule || len(l) != len(want) {
		t.Errorf("Split(%v): %d frames, %d, %d, not %d, %d, %d", b, len(l), at, r, len(want), place, rule)
		return
	}
	for i, p := range l {
		if !sameStep(step{p, api.Right}, want[i]) {
			t.Errorf("Split(%v), %d: %v, not %v", b, i, p, want[i].p)
		}
	}
}

// P3.3: of nothing there is nothing to go over, and no rule is offended.
func TestAllOfNothing(t *testing.T) {
	for _, b := range [][]byte{nil, {}, make([]byte, 9)[:0]} {
		if l := told(b); len(l) != 0 {
			t.Errorf("All: %v", l)
		}
		if l, at, r := frame.Split(b); len(l) != 0 || at != 0 || r != api.Right {
			t.Errorf("Split: %v, %d, %d", l, at, r)
		}
	}
}

// P3.3: the chapter's example.
func TestSplitExample(t *testing.T) {
	f := frame.Frame{Kind: 4, Payload: []byte{1, 2}}
	for c := range 256 {
		l, at, r := frame.Split(append(frame.Put(f), byte(c)))
		if len(l) != 1 || !frame.Same(l[0].Frame, f) || l[0].From != 0 || l[0].To != 8 || at != 8 || r != api.Cut {
			t.Errorf("%d: %v, %d, %d", c, l, at, r)
		}
	}
}

// P3.3: places and frames, written out.
func TestAllPlaces(t *testing.T) {
	l := []frame.Frame{{Kind: 1}, {Kind: 2, Payload: mixed(200, 1)}, {Kind: 1}, {Kind: 3, Payload: []byte{9}}}
	want := []step{{frame.Placed{Frame: l[0], From: 0, To: 6}, 0}, {frame.Placed{Frame: l[1], From: 6, To: 213}, 0}, {frame.Placed{Frame: l[2], From: 213, To: 219}, 0}, {frame.Placed{Frame: l[3], From: 219, To: 226}, 0}}
	b := frame.Put(l...)
	if got := told(b); !slices.EqualFunc(got, want, sameStep) {
		t.Errorf("%v", got)
	}
	if _, at, r := frame.Split(b); at != 226 || r != api.Right {
		t.Errorf("%d, %d", at, r)
	}
	b[215] ^= 1
	want = append(want[:2], step{frame.Placed{From: 213}, api.Check})
	if got := told(b); !slices.EqualFunc(got, want, sameStep) {
		t.Errorf("%v", got)
	}
	if got, at, r := frame.Split(b); len(got) != 2 || at != 213 || r != api.Check {
		t.Errorf("%v, %d, %d", got, at, r)
	}
}

// P3.3, P3.5: what was put is told as it was; bytes that are frames all through are what Put makes of them.
func TestSplitPut(t *testing.T) {
	l := several()
	b := frame.Put(l...)
	checkAll(t, b)
	got, at, r := frame.Split(b)
	if len(got) != len(l) || at != len(b) || r != api.Right {
		t.Fatalf("%d, %d, %d", len(got), at, r)
	}
	var again []frame.Frame
	for i, p := range got {
		if !frame.Same(p.Frame, l[i]) || p.To-p.From != frame.Size(l[i]) {
			t.Errorf("%d: %d to %d", i, p.From, p.To)
		}
		again = append(again, p.Frame)
	}
	if !bytes.Equal(frame.Put(again...), b) {
		t.Error("put again, other bytes")
	}
}

// P3.3: each rule, offended by each of four frames: all ends there, though right frames come behind.
func TestSplitOffends(t *testing.T) {
	l := []frame.Frame{{Kind: 1}, {Kind: 2, Payload: []byte{1, 2, 3}}, {Kind: 3, Payload: mixed(130, 1)}, {Kind: 4, Payload: []byte{0}}}
	cut := frame.Put(frame.Frame{Kind: 9, Payload: mixed(2000, 3)})[:20]
	check := frame.Put(frame.Frame{Kind: 9, Payload: mixed(20, 3)})
	check[5] ^= 4
	for _, x := range []struct {
		b    []byte
		want api.Rule
	}{{cut, api.Cut}, {check, api.Check}, {[]byte{1, 128, 0}, api.Length}, {append([]byte{1}, bytes.Repeat([]byte{200}, 12)...), api.Length}} {
		for i := range len(l) + 1 {
			ahead := frame.Put(l[:i]...)
			b := slices.Concat(ahead, x.b, frame.Put(l[i:]...))
			checkAll(t, b)
			got, at, r := frame.Split(b)
			if len(got) != i || at != len(ahead) || r != x.want {
				t.Errorf("%d, %d: %v, %d, %d", x.want, i, got, at, r)
			}
			checkAll(t, append(b, x.b...)) // the first one counts
		}
	}
}

// P3.3, P3.5: each beginning of some frames, and each byte of theirs as some other ones.
func TestSplitChanged(t *testing.T) {
	good := frame.Put(frame.Frame{Kind: 1}, frame.Frame{Kind: 130, Payload: []byte{6, 0, 0}}, frame.Frame{Kind: 0, Payload: mixed(128, 7)}, frame.Frame{Kind: 2, Payload: []byte{1}})
	for i := range good {
		checkAll(t, good[:i])
		checkAll(t, good[i:])
		for _, d := range []byte{1, 2, 64, 128, 255} {
			b := bytes.Clone(good)
			b[i] ^= d
			checkAll(t, b)
			if _, _, r := frame.Split(b); r == api.Right {
				t.Errorf("%v: not refused", b)
			}
		}
	}
}

// P3.3: bytes of all kinds, and all rows of up to four.
func TestSplitAny(t *testing.T) {
	for n := range 60 {
		for seed := range uint32(20) {
			checkAll(t, mixed(n, seed))
			checkAll(t, make([]byte, n))
			checkAll(t, append(frame.Put(frame.Frame{Kind: 1, Payload: mixed(n, seed)}), mixed(n, seed+9)...))
		}
	}
	for i := range 1 << 16 {
		checkAll(t, []byte{1, byte(i >> 8), byte(i), 0})
	}
}

// P3.3: what All tells may be left early, and gone over again, also while it is gone over.
func TestAllAgain(t *testing.T) {
	l := []frame.Frame{{Kind: 1, Payload: []byte{1}}, {Kind: 2}, {Kind: 3, Payload: []byte{3, 3}}}
	b := append(frame.Put(l...), 7)
	all := frame.All(b)
	want := toldByWords(b)
	for stop := range len(want) + 1 {
		var got []step
		for p, r := range all {
			if len(got) == stop {
				break
			}
			got = append(got, step{p, r})
		}
		if !slices.EqualFunc(got, want[:stop], sameStep) {
			t.Errorf("left behind %d: %v", stop, got)
		}
	}
	outer := 0
	for p, r := range all {
		inner := 0
		for q, s := range all {
			if !sameStep(step{q, s}, want[inner]) {
				t.Errorf("%d within %d: %v, %d", inner, outer, q, s)
			}
			inner++
		}
		if inner != len(want) || !sameStep(step{p, r}, want[outer]) {
			t.Errorf("%d, of %d within: %v, %d", outer, inner, p, r)
		}
		outer++
	}
	if outer != len(want) {
		t.Errorf("%d turns", outer)
	}
}

// P3.4: All tells what b was as it was called, whatever is done to b, or to what was told, afterwards.
func TestAllTellsWhatWas(t *testing.T) {
	back := append(frame.Put(frame.Frame{Kind: 1, Payload: []byte{1, 2}}, frame.Frame{Kind: 2}, frame.Frame{Kind: 3, Payload: []byte{3}}), frame.Put(frame.Frame{Kind: 4})...)
	b := back[:len(back)-3]
	want := toldByWords(bytes.Clone(b))
	all := frame.All(b)
	clear(back)
	for range 2 {
		n := 0
		for p, r := range all {
			if n >= len(want) || !sameStep(step{p, r}, want[n]) {
				t.Errorf("%d: %v, %d", n, p, r)
			}
			clear(p.Frame.Payload)
			_ = append(p.Frame.Payload, 99, 99, 99, 99, 99, 99, 99, 99)
			back[0] = byte(n)
			n++
		}
		if n != len(want) {
			t.Errorf("%d turns", n)
		}
	}
}

// P3.4: bytes are only read, what lies behind their length included; frames that are told are new memory, and share none.
func TestSplitMemory(t *testing.T) {
	l := []frame.Frame{{Kind: 1, Payload: mixed(20, 1)}, {Kind: 2}, {Kind: 3, Payload: mixed(9, 2)}, {Kind: 4, Payload: mixed(300, 3)}}
	back := append(frame.Put(l...), mixed(40, 4)...)
	was := bytes.Clone(back)
	b := back[:len(back)-40]
	one, _, _ := frame.Split(b)
	two, _, _ := frame.Split(b)
	told(b)
	if !bytes.Equal(back, was) {
		t.Errorf("changed: %v", back)
	}
	for i := range one { // frame by frame: those behind it stay what they were
		_ = append(one[i].Frame.Payload, make([]byte, 30)...)
		clear(one[i].Frame.Payload)
		for j := i + 1; j < len(one); j++ {
			if !frame.Same(one[j].Frame, l[j]) {
				t.Errorf("%d and %d share", i, j)
			}
		}
	}
	if !bytes.Equal(back, was) {
		t.Errorf("shared: %v", back)
	}
	clear(back)
	clear(one)
	for i, p := range two {
		if !frame.Same(p.Frame, l[i]) {
			t.Errorf("kept, or shared: %d", i)
		}
	}
}

// Two that are gone over side by side have nothing of each other.
func TestAllApart(t *testing.T) {
	a, b := frame.Put(frame.Frame{Kind: 1}, frame.Frame{Kind: 2}), frame.Put(frame.Frame{Kind: 3, Payload: []byte{5}})
	x, y := frame.All(a), frame.All(b)
	var kinds []byte
	for p := range x {
		for q := range y {
			kinds = append(kinds, p.Frame.Kind, q.Frame.Kind)
		}
	}
	if !bytes.Equal(kinds, []byte{1, 3, 2, 3}) {
		t.Errorf("%v", kinds)
	}
}
