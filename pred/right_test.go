package pred_test

import (
	"bytes"
	"math"
	"slices"
	"testing"

	"alibi/pred"
)

// tried are trees of all sorts, right and not.
func tried() []pred.Expr {
	l := append(grown(2000), spoilt()...)
	for _, k := range []int{math.MinInt, -1, 0, 1, 2, 3, 4, 5, 6, 7, 8, 255, 257, math.MaxInt} {
		for _, a := range []uint64{0, 1, 5, top} {
			for _, b := range []uint64{0, 1, 5, top} {
				for _, parts := range [][]pred.Expr{nil, {}, {all()}, {{}}, {all(), xMost(3)}, {all(), vMod(2, 2)}} {
					l = append(l, pred.Expr{Kind: k, A: a, B: b, Parts: parts})
				}
			}
		}
	}
	return l
}

// P4.1: which trees are right.
func TestRight(t *testing.T) {
	for i, p := range tried() {
		if got, want := pred.Right(p), rightByWords(p); got != want {
			t.Errorf("%d: %v: %t", i, p, got)
		}
	}
	for i, p := range spoilt() {
		if pred.Right(p) {
			t.Errorf("%d: %v", i, p)
		}
	}
}

// P4.1: up to 8 levels and up to 32 nodes are right, and no more.
func TestRightLimits(t *testing.T) {
	for i, x := range []struct {
		p    pred.Expr
		want bool
	}{
		{nots(7, all()), true},
		{nots(8, all()), false},
		{nots(7, and()), true},
		{nots(7, and(all())), false},
		{nots(6, or(alls(25)...)), true},
		{nots(6, or(alls(26)...)), false},
		{and(alls(31)...), true},
		{and(alls(32)...), false},
		{or(and(alls(14)...), and(alls(15)...)), true},
		{or(and(alls(15)...), and(alls(15)...)), false},
		{or(alls(23)[0], nots(7, all())), false},
		{or(all(), nots(6, all())), true},
		{or(append(alls(24), nots(6, all()))...), true},
		{or(append(alls(25), nots(6, all()))...), false},
		{or(append([]pred.Expr{nots(6, all())}, alls(24)...)...), true},
		{or(append([]pred.Expr{nots(7, all())}, alls(3)...)...), false},
	} {
		if pred.Right(x.p) != x.want {
			t.Errorf("%d: %t", i, !x.want)
		}
	}
}

// P4.1: Depth and Nodes go by parts alone, of any tree.
func TestDepthAndNodes(t *testing.T) {
	for i, p := range tried() {
		if n, want := pred.Depth(p), depthByWords(p); n != want {
			t.Errorf("%d: depth %d, not %d", i, n, want)
		}
		if n, want := pred.Nodes(p), len(walk(p)); n != want {
			t.Errorf("%d: %d nodes, not %d", i, n, want)
		}
	}
	odd := pred.Expr{Kind: -7, A: 1, Parts: []pred.Expr{{Kind: 99}, {Kind: pred.All, Parts: []pred.Expr{{}, {Kind: pred.Not}}}}}
	for i, x := range []struct {
		p           pred.Expr
		deep, nodes int
	}{
		{pred.Expr{}, 1, 1},
		{pred.Expr{Parts: []pred.Expr{}}, 1, 1},
		{all(), 1, 1},
		{and(), 1, 1},
		{and(xMost(7), not(vMod(3, 1))), 3, 4},
		{and(not(vMod(3, 1)), xMost(7)), 3, 4},
		{odd, 3, 5},
		{or(odd, odd), 4, 11},
		{nots(1<<16-1, all()), 1 << 16, 1 << 16},
		{and(alls(100000)...), 2, 100001},
	} {
		if d, n := pred.Depth(x.p), pred.Nodes(x.p); d != x.deep || n != x.nodes {
			t.Errorf("%d: %d, %d", i, d, n)
		}
	}
}

// P4.1: what a predicate asks holds as its words say.
func TestHolds(t *testing.T) {
	for i, x := range []struct {
		p    pred.Expr
		x, v uint64
		want bool
	}{
		{all(), 0, 0, true},
		{all(), top, top, true},
		{xMost(0), 0, top, true},
		{xMost(0), 1, 0, false},
		{xMost(7), 7, 8, true},
		{xMost(7), 8, 7, false},
		{xMost(top), top, 0, true},
		{xMost(1 << 63), 1<<63 + 1, 0, false},
		{xMost(top), 1 << 63, 0, true},
		{vMost(0), top, 0, true},
		{vMost(0), 0, 1, false},
		{vMost(7), 8, 7, true},
		{vMost(7), 7, 8, false},
		{vMost(top), 0, top, true},
		{vMod(1, 0), 5, 6, true},
		{vMod(3, 1), 0, 4, true},
		{vMod(3, 1), 4, 0, false},
		{vMod(3, 0), 1, 0, true},
		{vMod(top, top-1), 0, top - 1, true},
		{vMod(top, 0), 0, top, true},
		{vMod(1<<63, 1<<63-1), 0, top, true},
		{not(all()), 1, 1, false},
		{not(xMost(3)), 4, 0, true},
		{not(not(xMost(3))), 4, 0, false},
		{and(), 1, 1, true},
		{or(), 1, 1, false},
		{and(xMost(7)), 7, 0, true},
		{or(xMost(7)), 8, 0, false},
		{and(xMost(7), not(vMod(3, 1))), 7, 5, true},
		{and(xMost(7), not(vMod(3, 1))), 7, 4, false},
		{and(xMost(7), not(vMod(3, 1))), 8, 5, false},
		{or(xMost(7), vMod(3, 1)), 8, 4, true},
		{or(xMost(7), vMod(3, 1)), 7, 5, true},
		{or(xMost(7), vMod(3, 1)), 8, 5, false},
		{and(or(), all()), 0, 0, false},
		{or(and(), not(all())), 0, 0, true},
	} {
		if pred.Holds(x.p, x.x, x.v) != x.want {
			t.Errorf("%d: %t", i, !x.want)
		}
	}
	for i, p := range grown(2000) {
		for _, x := range numbers() {
			for _, v := range numbers() {
				if got := pred.Holds(p, x, v); got != holdsByWords(p, x, v) {
					t.Fatalf("%d: %s of %d, %d: %t", i, textByWords(p), x, v, got)
				}
			}
		}
	}
}

// P4.1: of one that is not right nothing holds, whatever its other parts ask.
func TestHoldsNotRight(t *testing.T) {
	for i, p := range spoilt() {
		for _, q := range []pred.Expr{p, not(p), or(all(), p), or(p, all()), not(and(not(all()), p))} {
			for _, v := range []uint64{0, 1, 4, top} {
				if pred.Holds(q, v, v) {
					t.Errorf("%d: %v of %d", i, q, v)
				}
			}
		}
	}
}

// P4.1: trees are the same just if they are, node by node; nil parts and empty ones mean the same.
func TestSame(t *testing.T) {
	apart := []pred.Expr{
		{}, {Kind: -1}, {Kind: 8}, {Kind: 257}, {A: 1}, {B: 1}, {A: 1, B: 1}, {A: top}, {Parts: []pred.Expr{{}}},
		all(), {Kind: pred.All, A: 1}, {Kind: pred.All, B: 1}, {Kind: pred.All, Parts: []pred.Expr{all()}},
		xMost(4), xMost(5), vMost(4), vMod(4, 3), vMod(4, 2), vMod(5, 3), {Kind: pred.Not},
		not(all()), not(not(all())), not(xMost(4)), not(pred.Expr{}), and(), or(), and(all()), or(all()), and(all(), all()),
		and(xMost(4), vMost(4)), and(vMost(4), xMost(4)), and(and(xMost(4)), vMost(4)), and(xMost(4), and(vMost(4))),
		and(and(xMost(4), vMost(4))), and(xMost(4), vMost(5)), and(xMost(4), vMost(4), all()), or(xMost(4), vMost(4)),
	}
	for i, p := range apart {
		for j, q := range apart {
			if pred.Same(p, q) != (i == j) {
				t.Errorf("%d, %d: %t", i, j, i != j)
			}
		}
		if len(p.Parts) > 0 {
			continue
		}
		bare := p
		bare.Parts = []pred.Expr{}
		if !pred.Same(p, bare) || !pred.Same(bare, p) || !pred.Same(and(p, bare), and(bare, p)) || pred.Right(p) != pred.Right(bare) || pred.Text(p) != pred.Text(bare) || !bytes.Equal(pred.Put(p), pred.Put(bare)) {
			t.Errorf("%d: empty parts", i)
		}
	}
	if !pred.Same(nots(1<<16, all()), nots(1<<16, all())) || pred.Same(nots(1<<16, all()), nots(1<<16, and())) || pred.Same(nots(1<<16, all()), nots(1<<16-1, all())) {
		t.Error("deep ones")
	}
}

// P4.4: Both is And of the parts, in order, right or not.
func TestBoth(t *testing.T) {
	for i, l := range [][]pred.Expr{nil, {}, {all()}, {xMost(4), vMost(5)}, {and(), and(all())}, {{}, {Kind: 9, Parts: alls(2)}}, alls(40), {nots(20, all())}} {
		p := pred.Both(l...)
		if !pred.Same(p, and(l...)) {
			t.Errorf("%d: %v", i, p)
		}
	}
	if p := pred.Both(); p.Kind != pred.And || len(p.Parts) != 0 || !pred.Right(p) {
		t.Errorf("none: %v", p)
	}
}

// P4.4: Turn takes a Not of one part away, and puts one about all else.
func TestTurn(t *testing.T) {
	two := pred.Expr{Kind: pred.Not, Parts: alls(2)}
	for i, x := range []struct{ p, want pred.Expr }{
		{all(), not(all())},
		{not(all()), all()},
		{nots(2, all()), not(all())},
		{nots(3, vMod(3, 1)), nots(2, vMod(3, 1))},
		{and(not(all())), not(and(not(all())))},
		{and(), not(and())},
		{pred.Expr{}, not(pred.Expr{})},
		{not(pred.Expr{}), pred.Expr{}},
		{pred.Expr{Kind: pred.Not}, not(pred.Expr{Kind: pred.Not})},
		{pred.Expr{Kind: pred.Not, Parts: []pred.Expr{}}, not(pred.Expr{Kind: pred.Not})},
		{two, not(two)},
		{not(two), two},
		{pred.Expr{Kind: 9, Parts: []pred.Expr{all()}}, not(pred.Expr{Kind: 9, Parts: []pred.Expr{all()}})},
		{nots(7, all()), nots(6, all())},
		{nots(1<<16, all()), nots(1<<16-1, all())},
		{and(nots(1<<16, all())), not(and(nots(1<<16, all())))},
	} {
		if q := pred.Turn(x.p); !pred.Same(q, x.want) {
			t.Errorf("%d: depth %d, kind %d", i, pred.Depth(q), q.Kind)
		}
	}
}

// P4.6: what is turned holds just if it did not, and Both just if all parts do, as long as they are right.
func TestTurnedHolds(t *testing.T) {
	l := grown(1000)
	l = append(l, all(), and(), or(), nots(7, all()), nots(6, xMost(3)), and(alls(30)...))
	turned, joined := 0, 0
	for i, p := range l {
		q, both := pred.Turn(p), pred.Both(p, l[(i*7+3)%len(l)], vMost(300))
		for _, x := range []uint64{0, 3, 300, top} {
			for _, v := range []uint64{0, 3, 300, top} {
				if pred.Right(q) {
					turned++
					if pred.Holds(q, x, v) == pred.Holds(p, x, v) {
						t.Errorf("%s of %d, %d: turned", textByWords(p), x, v)
					}
				}
				if pred.Right(both) {
					joined++
					want := !slices.ContainsFunc(both.Parts, func(q pred.Expr) bool { return !pred.Holds(q, x, v) })
					if pred.Holds(both, x, v) != want {
						t.Errorf("%s of %d, %d: both", textByWords(both), x, v)
					}
				}
			}
		}
	}
	if turned < 1000 || joined < 1000 {
		t.Errorf("too few: %d, %d", turned, joined)
	}
}

// A tree that has itself as a part, or has no end of nodes, is not right; what asks for that ends.
func TestWithoutEnd(t *testing.T) {
	loop := pred.Expr{Kind: pred.Not, Parts: make([]pred.Expr, 1)}
	loop.Parts[0] = loop
	wide := pred.Expr{Kind: pred.And, Parts: make([]pred.Expr, 3)}
	for i := range wide.Parts {
		wide.Parts[i] = wide
	}
	bush := all()
	for range 60 {
		bush = and(bush, bush)
	}
	for i, p := range []pred.Expr{loop, wide, bush} {
		if pred.Right(p) || pred.Holds(p, 1, 1) || len(pred.Put(p)) != 0 || pred.Text(p) != "" {
			t.Errorf("%d: right", i)
		}
	}
}

// P4.5: what is handed in stays as it was, behind a list's length, too, and is not part of an answer; no two answers share memory, nor one within itself.
func TestTreesApart(t *testing.T) {
	back := []pred.Expr{not(xMost(4)), and(vMost(5), or(all())), {Kind: 77}, {Kind: 78}}
	l := back[:2]
	p := pred.Expr{Kind: pred.Or, Parts: l}
	was := or(not(xMost(4)), and(vMost(5), or(all())))
	for i, make := range []func() pred.Expr{
		func() pred.Expr { return pred.Both(l...) },
		func() pred.Expr { return pred.Both(p, p) },
		func() pred.Expr { return pred.Turn(p) },
		func() pred.Expr { return pred.Turn(back[0]) },
		func() pred.Expr { return pred.Turn(pred.Expr{Kind: pred.Not, Parts: []pred.Expr{p}}) },
		func() pred.Expr { q, _, _ := pred.Take(pred.Put(p), 0); return q },
		func() pred.Expr { q, _ := pred.Parse(pred.Put(p)); return q },
		func() pred.Expr { q, _ := pred.Read(pred.Text(p)); return q },
	} {
		one, two := make(), make()
		checkNoSharing(t, one)
		spoil(one)
		if !pred.Same(p, was) || back[2].Kind != 77 || back[3].Kind != 78 {
			t.Fatalf("%d: what was handed in: %v", i, back)
		}
		if !pred.Same(two, make()) {
			t.Errorf("%d: another answer: %v", i, two)
		}
	}
	pred.Right(p)
	pred.Depth(p)
	pred.Nodes(p)
	pred.Holds(p, 1, 2)
	pred.Same(p, was)
	if !pred.Same(p, was) || back[2].Kind != 77 || back[3].Kind != 78 {
		t.Errorf("changed: %v", back)
	}
	q := pred.Both(l...)
	back[0], back[1] = all(), all()
	if !pred.Same(q, and(was.Parts...)) {
		t.Errorf("kept: %v", q)
	}
}

// spoil changes all that a tree has, and puts more behind its lists.
func spoil(p pred.Expr) {
	for i := range p.Parts {
		spoil(p.Parts[i])
		p.Parts[i] = pred.Expr{Kind: 99, A: 9, B: 9}
	}
	_ = append(p.Parts, pred.Expr{Kind: 98}, pred.Expr{Kind: 97})
}

// checkNoSharing holds all lists of a tree against each other.
func checkNoSharing(t *testing.T, p pred.Expr) {
	t.Helper()
	seen := map[*pred.Expr]bool{}
	for _, x := range walk(p) {
		for i := range x.p.Parts {
			if q := &x.p.Parts[i]; seen[q] {
				t.Errorf("a part is in two lists: %v", *q)
			} else {
				seen[q] = true
			}
		}
	}
}
