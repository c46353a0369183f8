package match_test

import (
	"slices"
	"testing"

	"alibi/history"
	"alibi/match"
	"alibi/pred"
	"alibi/record"
)

// eachRow goes over rows of grown traces.
func eachRow(t *testing.T, seeds uint64, does func(h *history.History, p pred.Expr, x, own uint64)) {
	t.Helper()
	for seed := range seeds {
		l := grown(120, 1000*seeds+seed)
		h := made(t, l...)
		all := owners(l)
		for i, p := range predicates() {
			for _, x := range objects() {
				does(h, p, x, 0)
				does(h, p, x, all[i%len(all)])
			}
		}
	}
}

// P12.5: a step matches just if the number of changes at it, or ahead of it, is odd.
func TestOdd(t *testing.T) {
	changes := 0
	eachRow(t, 40, func(h *history.History, p pred.Expr, x, own uint64) {
		row := match.Row(h, p, x, own)
		for i, s := range row {
			n := len(match.Changes(row[:i+1]...))
			ahead, _, ok := match.Split(h, p, x, own, s.V)
			if s.Matches != (n%2 == 1) || len(ahead) != n || !ok || s.Matches != match.Holds(h, p, x, s.V) {
				t.Fatalf("%v: %d, %v", row, i, ahead)
			}
		}
		changes += len(match.Changes(row...))
	})
	if changes < 5000 {
		t.Errorf("%d", changes)
	}
}

// P12.5: between two steps without a change between them nothing differs.
func TestNothingDiffers(t *testing.T) {
	eachRow(t, 20, func(h *history.History, p pred.Expr, x, own uint64) {
		row := match.Row(h, p, x, own)
		for i, a := range row {
			for j, b := range row[i:] {
				if between := row[i+1 : i+j+1]; j > 0 && len(match.Changes(between...)) == 0 && a.Matches != b.Matches {
					t.Fatalf("%v: %d, %d", row, i, j)
				}
			}
		}
	})
}

// P12.5: ahead and behind are together all changes, each once.
func TestTogether(t *testing.T) {
	eachRow(t, 20, func(h *history.History, p pred.Expr, x, own uint64) {
		row := match.Row(h, p, x, own)
		for _, s := range row {
			ahead, behind, ok := match.Split(h, p, x, own, s.V)
			if !ok || !slices.Equal(append(ahead, behind...), match.Changes(row...)) {
				t.Fatalf("%v: %v, %v", row, ahead, behind)
			}
		}
	})
}

// P12.5: a look's M is whether what it names matches the predicate of its Pred.
func TestLooksMatch(t *testing.T) {
	looks, matched := 0, 0
	for seed := range uint64(60) {
		l := grown(100, 2000+seed)
		h := made(t, l...)
		for pos, r := range l {
			for _, k := range match.Set(h, pos) {
				looks++
				if k.M != match.Holds(h, r.P, k.X, k.V) || !k.Pred || k.T != r.T || k.Pos != pos {
					t.Fatalf("%s: %v", record.Text(r), k)
				}
				if k.M {
					matched++
				}
			}
		}
	}
	if looks < 1000 || matched < 100 {
		t.Errorf("%d, %d", looks, matched)
	}
}

// P12.3: a Pred's version set has all of its looks, and of each object of the history one.
func TestSetHasLooks(t *testing.T) {
	for seed := range uint64(40) {
		h := made(t, grown(100, 3000+seed)...)
		for pos, r := range h.Records() {
			if r.Kind != record.Pred {
				continue
			}
			var named []history.Look
			var of []uint64
			for _, k := range match.Set(h, pos) {
				of = append(of, k.X)
				if k.Place >= 0 {
					named = append(named, k)
				}
			}
			if !slices.Equal(named, h.At(pos)) || !slices.Equal(of, h.Objects()) {
				t.Fatalf("%d: %v, %v", pos, named, of)
			}
		}
	}
}

// Open ones count as aborted: rows of the whole history are the same, and its sets.
func TestWholeHasTheSame(t *testing.T) {
	for seed := range uint64(10) {
		l := grown(60, 4000+seed)
		h := made(t, l...).Whole()
		for _, x := range objects() {
			checkObject(t, h, l, pred.Expr{Kind: pred.VMost, A: 2}, x, 0, asked(l))
		}
		for pos := range l {
			if !slices.Equal(match.Set(h, pos), setByWords(l, pos)) {
				t.Fatalf("%d", pos)
			}
		}
	}
}

// spoil changes all of a list, and what lies behind it.
func spoil[V any](l []V, v V) {
	l = l[:cap(l)]
	for i := range l {
		l[i] = v
	}
}

var spoilt = match.Step{V: record.Version{W: 99, N: 99}, Writer: 99}

// P12.4: what is answered is new memory.
func TestNewMemory(t *testing.T) {
	for seed := range uint64(10) {
		l := grown(60, 5000+seed)
		h := made(t, l...)
		for _, x := range objects() {
			for _, p := range predicates() {
				spoil(match.Row(h, p, x, 0), spoilt)
				for _, v := range asked(l) {
					a, b, _ := match.Split(h, p, x, 0, v)
					spoil(a, spoilt)
					spoil(b, spoilt)
				}
			}
		}
		for pos := range l {
			spoil(match.Set(h, pos), history.Look{Pos: 99})
		}
		checkAll(t, h, l)
	}
}

// P12.4: no two lists share memory: neither Split's two, nor two answers.
func TestAnswersApart(t *testing.T) {
	eachRow(t, 10, func(h *history.History, p pred.Expr, x, own uint64) {
		row, again := match.Row(h, p, x, own), match.Row(h, p, x, own)
		want := slices.Clone(row)
		for _, s := range want {
			a, b, _ := match.Split(h, p, x, own, s.V)
			behind := slices.Clone(b)
			spoil(a, spoilt)
			if !slices.Equal(b, behind) {
				t.Fatalf("%v: %v", behind, b)
			}
			a, b, _ = match.Split(h, p, x, own, s.V)
			ahead := slices.Clone(a)
			spoil(b, spoilt)
			if !slices.Equal(a, ahead) {
				t.Fatalf("%v: %v", ahead, a)
			}
		}
		spoil(row, spoilt)
		if !slices.Equal(again, want) {
			t.Fatalf("%v: %v", want, again)
		}
	})
	h := told(t, "begin 1; pred 1 all 5:0.0:0 6:0.0:0; read 1 7 0.0")
	one, two := match.Set(h, 1), match.Set(h, 1)
	spoil(one, history.Look{Pos: 99})
	if !slices.Equal(two, setByWords(h.Records(), 1)) {
		t.Errorf("%v", two)
	}
}

// P12.4: steps are only read, and those that change are apart from them.
func TestChangesOnlyRead(t *testing.T) {
	given := []match.Step{step(1, 0, "mc"), step(2, 1, "c"), step(3, 2, "m"), step(4, 3, "mc"), step(5, 4, "c")}
	was := slices.Clone(given)
	for n := range len(given) {
		got := match.Changes(given[:n]...)
		if !slices.Equal(given, was) {
			t.Fatalf("%d: %v", n, given)
		}
		spoil(got, spoilt)
		if !slices.Equal(given, was) {
			t.Fatalf("%d: %v", n, given)
		}
		got = match.Changes(given[:n]...)
		want := slices.Clone(got)
		spoil(given[:n], spoilt)
		if !slices.Equal(got, want) {
			t.Fatalf("%d: %v", n, got)
		}
		copy(given, was)
	}
}

// P12.4: the history, and the predicate, are only read, what lies behind its parts too.
func TestOnlyRead(t *testing.T) {
	for seed := range uint64(10) {
		l := grown(60, 6000+seed)
		h := made(t, l...)
		p := pred.Both(pred.Expr{Kind: pred.VMost, A: 2}, pred.Turn(pred.Expr{Kind: pred.XMost, A: 1}))
		p.Parts = append(p.Parts, pred.Expr{Kind: 77})[:2]
		is := pred.Text(p)
		for _, x := range objects() {
			match.Row(h, p, x, 1)
			match.Split(h, p, x, 0, version(1, 1))
			match.Holds(h, p, x, version(1, 1))
		}
		for pos := range l {
			match.Set(h, pos)
		}
		if pred.Text(p) != is || p.Parts[:3][2].Kind != 77 {
			t.Fatalf("%+v", p)
		}
		if !slices.EqualFunc(h.Records(), l, record.Same) || !slices.Equal(h.Mods(), made(t, l...).Mods()) || !slices.Equal(h.Txs(), made(t, l...).Txs()) || !slices.Equal(h.Looks(), made(t, l...).Looks()) {
			t.Fatalf("%s", telling(h.Records()))
		}
	}
}
