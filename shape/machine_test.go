package shape_test

import (
	"slices"
	"testing"

	"alibi/api"
	"alibi/pred"
	"alibi/record"
	"alibi/shape"
)

// versions are those where something may go wrong.
func versions() []record.Version {
	var l []record.Version
	for _, w := range []uint64{0, 1, 2, 1 << 63, top} {
		for _, n := range []uint64{0, 1, 2, 1<<32 + 1, 1 << 63, top} {
			l = append(l, version(w, n))
		}
	}
	return l
}

// A nil machine: Step answers Kind, and Made ErrNil; unborn is there; all else is nothing, false, 0.
func TestNilMachine(t *testing.T) {
	var none *shape.Machine
	for range 2 {
		for _, r := range append(spoilt(), lines(t, "begin 1; begin 0; read 1 5 0.0; write 1 5 1; delete 1 5; pred 1 all; commit 1; abort 1")...) {
			if rule := none.Step(r); rule != api.Kind {
				t.Errorf("kind %d, T %d: %d", r.Kind, r.T, rule)
			}
		}
		if none.Len() != 0 || len(none.Open()) != 0 {
			t.Errorf("%d, %v", none.Len(), none.Open())
		}
		for _, x := range objects() {
			if l := none.Objects(x); len(l) != 0 {
				t.Errorf("Objects(%d): %v", x, l)
			}
			for _, v := range versions() {
				if d, e := none.Made(x, v); d != (shape.Made{}) || e != api.ErrNil {
					t.Errorf("Made(%d, %s): %v, %d", x, v.Text(), d, e)
				}
				if none.There(x, v) != (v == version(0, 0)) {
					t.Errorf("There(%d, %s)", x, v.Text())
				}
				if own, ok := none.Latest(v.W, x); own != version(0, 0) || ok {
					t.Errorf("Latest(%d, %d): %v, %v", v.W, x, own, ok)
				}
				for i, p := range asked() {
					if none.Matches(p, x, v) {
						t.Errorf("%d: Matches(%d, %s)", i, x, v.Text())
					}
				}
			}
		}
	}
}

// A zero machine has had no records, and takes some.
func TestZeroMachine(t *testing.T) {
	var m shape.Machine
	checkMachine(t, &m, nil)
	checkMachine(t, new(shape.Machine), nil)
	for _, s := range []string{"commit 1", "read 1 5 0.0", "pred 1 all", "abort 1", "begin 0"} {
		if rule := m.Step(line(t, s)); rule == api.Right {
			t.Error(s)
		}
	}
	checkMachine(t, &m, nil)
	l := lines(t, "begin 1; write 1 1 1; read 1 1 1.1")
	for i, r := range l {
		if rule := m.Step(r); rule != api.Right {
			t.Errorf("%d: %d", i, rule)
		}
		checkMachine(t, &m, l[:i+1])
	}
}

// P9.2: what versions are, of transactions that are open, committed and aborted.
func TestVersions(t *testing.T) {
	m := machine(t, lines(t, "begin 9; write 9 1 5; delete 9 1; write 9 1 0; write 9 2 18446744073709551615; begin 4; delete 4 1; commit 4; begin 3; write 3 1 8; abort 3; begin 2; commit 2")...)
	for _, v := range []struct {
		x, w, n uint64
		d       shape.Made
		e       api.Errno
	}{
		{1, 9, 1, shape.Made{Value: 5}, 0}, {1, 9, 2, shape.Made{Dead: true}, 0}, {1, 9, 3, shape.Made{}, 0}, {2, 9, 1, shape.Made{Value: top}, 0}, {1, 4, 1, shape.Made{Dead: true}, 0}, {1, 3, 1, shape.Made{Value: 8}, 0},
		{1, 9, 0, shape.Made{}, api.ErrNone}, {1, 9, 4, shape.Made{}, api.ErrNone}, {2, 9, 2, shape.Made{}, api.ErrNone}, {1, 2, 1, shape.Made{}, api.ErrNone}, {3, 9, 1, shape.Made{}, api.ErrNone},
		{1, 0, 0, shape.Made{}, api.ErrNone}, {1, 0, 1, shape.Made{}, api.ErrNone}, {1, 9, top, shape.Made{}, api.ErrNone}, {1, 9, 1<<63 + 1, shape.Made{}, api.ErrNone}, {1, 9, 1<<32 + 1, shape.Made{}, api.ErrNone},
	} {
		at := version(v.w, v.n)
		if d, e := m.Made(v.x, at); d != v.d || e != v.e {
			t.Errorf("Made(%d, %s): %v, %d", v.x, at.Text(), d, e)
		}
		there := v.e == api.OK || v.w == 0 && v.n == 0
		if m.There(v.x, at) != there {
			t.Errorf("There(%d, %s)", v.x, at.Text())
		}
		if m.Matches(all(), v.x, at) != (v.e == api.OK && !v.d.Dead) {
			t.Errorf("Matches(%d, %s)", v.x, at.Text())
		}
		if five := (pred.Expr{Kind: pred.VMost, A: 5}); m.Matches(five, v.x, at) != (v.e == api.OK && !v.d.Dead && v.d.Value <= 5) {
			t.Errorf("Matches, at most 5: (%d, %s)", v.x, at.Text())
		}
	}
}

// P9.2: a transaction's own latest version, while it is open, and when it has ended.
func TestLatest(t *testing.T) {
	for _, end := range []string{"begin 7", "commit 9", "abort 9"} {
		m := machine(t, lines(t, "begin 9; begin 8; write 9 1 5; write 8 1 6; delete 9 1; write 9 2 6; write 8 3 3; "+end)...)
		for _, x := range []struct {
			t, x, n uint64
		}{{9, 1, 2}, {9, 2, 1}, {8, 1, 1}, {8, 3, 1}, {9, 3, 0}, {8, 2, 0}, {7, 1, 0}, {0, 0, 0}, {0, 1, 0}, {top, top, 0}} {
			want := record.Version{}
			if x.n > 0 {
				want = version(x.t, x.n)
			}
			if v, ok := m.Latest(x.t, x.x); v != want || ok != (x.n > 0) {
				t.Errorf("%s: Latest(%d, %d): %v, %v", end, x.t, x.x, v, ok)
			}
		}
	}
}

// P9.3: who is open, and what each transaction modified, rising, whatever came first.
func TestOpenAndObjects(t *testing.T) {
	m := machine(t, lines(t, "begin 300; begin 18446744073709551615; begin 5; begin 70; begin 1; write 300 9 1; delete 300 4; write 300 9 2; write 300 0 1; write 5 4 4; "+
		"delete 300 18446744073709551615; read 300 77 0.0; pred 5 all 4:5.1:1 66:0.0:0; commit 5; abort 70")...)
	if l := m.Open(); !slices.Equal(l, []uint64{1, 300, top}) {
		t.Errorf("Open: %v", l)
	}
	if l := m.Objects(300); !slices.Equal(l, []uint64{0, 4, 9, top}) {
		t.Errorf("Objects(300): %v", l)
	}
	if l := m.Objects(5); !slices.Equal(l, []uint64{4}) {
		t.Errorf("Objects(5): %v", l)
	}
	for _, none := range []uint64{0, 1, 4, 9, 70, top} {
		if l := m.Objects(none); len(l) != 0 {
			t.Errorf("Objects(%d): %v", none, l)
		}
	}
}

// Two machines are apart.
func TestApart(t *testing.T) {
	one, two := lines(t, "begin 1; write 1 5 1; begin 2; commit 1"), lines(t, "begin 2; delete 2 5; begin 1; write 1 6 1")
	var a, b shape.Machine
	for i := range one {
		a.Step(one[i])
		b.Step(two[i])
	}
	checkMachine(t, &a, one)
	checkMachine(t, &b, two)
}

// A trace as long as may be: many transactions, and many modifications of one, with Preds that name them all.
func TestLong(t *testing.T) {
	var m shape.Machine
	step := func(r record.Record) {
		t.Helper()
		if rule := m.Step(r); rule != api.Right {
			t.Fatalf("%+v: %d", r, rule)
		}
	}
	const many = 15000
	step(record.Record{Kind: record.Begin, T: top})
	ask := record.Record{Kind: record.Pred, T: top, P: all()}
	for i := range uint64(many) {
		step(record.Record{Kind: record.Begin, T: 1 + i})
		step(record.Record{Kind: record.Write, T: 1 + i, X: 5, Value: i})
		step(record.Record{Kind: record.Write, T: top, X: 2 * (many - i)})
		step(record.Record{Kind: record.Commit, T: 1 + i})
		ask.Entries = append(ask.Entries, record.Entry{X: 2 * (i + 1), V: version(top, 1), M: true})
	}
	for range 20 {
		step(ask)
	}
	if m.Len() != 4*many+21 || !slices.Equal(m.Open(), []uint64{top}) || len(m.Objects(top)) != many || !slices.IsSorted(m.Objects(top)) {
		t.Errorf("%d, %v, %d objects", m.Len(), m.Open(), len(m.Objects(top)))
	}
	if d, e := m.Made(5, version(many, 1)); d.Value != many-1 || e != api.OK {
		t.Errorf("%v, %d", d, e)
	}
	ask.Entries[many/2].V = record.Version{}
	if rule := m.Step(ask); rule != api.OwnEntry {
		t.Errorf("%d", rule)
	}
	ask.Entries = slices.Delete(ask.Entries, many/2, many/2+1)
	if rule := m.Step(ask); rule != api.OwnEntry {
		t.Errorf("%d", rule)
	}
}
