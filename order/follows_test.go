package order_test

import (
	"slices"
	"testing"

	"alibi/history"
	"alibi/order"
	"alibi/record"
)

// P11.5: places rise with their writers' ends.
func TestPlacesRise(t *testing.T) {
	for seed := range uint64(60) {
		h := past(t, grown(120, 1000+seed)...)
		o, c := order.Of(h), h.Committed()
		for _, x := range o.Objects() {
			last := -1
			for i, v := range o.Versions(x)[1:] {
				w, ok := h.Tx(v.W)
				if place, is := o.Place(x, v); !ok || w.End <= last || place != i+1 || !is || c[o.Writers(x)[i]] != v.W {
					t.Fatalf("%d: %v: %v, %d", x, v, w, place)
				}
				last = w.End
			}
		}
	}
}

// P11.5: each committed one that modified an object has just one version in its order, its last one; no other one has any.
func TestOneEach(t *testing.T) {
	for seed := range uint64(60) {
		h := past(t, grown(120, 2000+seed)...)
		o := order.Of(h)
		for _, x := range h.Objects() {
			had := map[uint64]int{}
			for _, v := range o.Versions(x)[1:] {
				had[v.W]++
			}
			for _, w := range h.Txs() {
				v, modified := h.Own(h.Len(), w.T, x)
				by, ok := o.Installed(x, v)
				is := modified && w.Status == history.Committed
				if ok != is || ok && by != w.Number || is && had[w.T] != 1 || !is && had[w.T] != 0 {
					t.Fatalf("%d: %v: %v, %d, %d", x, w, v, by, had[w.T])
				}
			}
		}
	}
}

// P11.5: Next and Ahead are each other's.
func TestNextAndAhead(t *testing.T) {
	steps := 0
	for seed := range uint64(60) {
		h := past(t, grown(120, 3000+seed)...)
		o := order.Of(h)
		for _, x := range h.Objects() {
			for _, m := range append(h.Of(x), history.Mod{}) {
				if next, _, ok := o.Next(x, m.V); ok {
					steps++
					if back, is := o.Ahead(x, next); back != m.V || !is {
						t.Fatalf("%d: %v: %v, %v", x, m.V, next, back)
					}
				}
				if ahead, ok := o.Ahead(x, m.V); ok {
					if on, _, is := o.Next(x, ahead); on != m.V || !is {
						t.Fatalf("%d: %v: %v, %v", x, m.V, ahead, on)
					}
				}
			}
		}
	}
	if steps < 1000 {
		t.Errorf("%d", steps)
	}
}

// Open ones count as aborted: the whole history has the same order.
func TestWholeHasTheSame(t *testing.T) {
	for seed := range uint64(20) {
		l := grown(60, 4000+seed)
		h := past(t, l...)
		checkOrder(t, order.Of(h.Whole()), l)
		checkOrder(t, order.Of(h), h.Whole().Records())
	}
}

// spoil changes all of a list, and what lies behind it.
func spoil[V any](l []V, v V) {
	l = l[:cap(l)]
	for i := range l {
		l[i] = v
	}
}

// spoilAnswers does so with all lists that an order answers.
func spoilAnswers(o *order.Order) {
	spoil(o.Objects(), 99)
	for _, x := range objects() {
		spoil(o.Versions(x), version(99, 99))
		spoil(o.Writers(x), 99)
		for _, n := range []int{-1, 0, 1, 2, 3, 1000} {
			spoil(o.Without(x, n), version(99, 99))
		}
	}
}

// P11.4: what is answered is new memory.
func TestNewMemory(t *testing.T) {
	for seed := range uint64(20) {
		l := grown(60, 5000+seed)
		o := made(t, l...)
		objects, versions, writers := o.Objects(), map[uint64][]record.Version{}, map[uint64][]int{}
		for _, x := range objects {
			versions[x], writers[x] = o.Versions(x), o.Writers(x)
		}
		spoilAnswers(o)
		checkOrder(t, o, l)
		if !slices.Equal(objects, o.Objects()) {
			t.Fatalf("%v", objects)
		}
		for _, x := range objects {
			if !slices.Equal(versions[x], o.Versions(x)) || !slices.Equal(writers[x], o.Writers(x)) {
				t.Fatalf("%d: %v, %v", x, versions[x], writers[x])
			}
		}
	}
	var none *order.Order
	spoilAnswers(none)
	checkOrder(t, none, nil)
}

// P11.4: the history is only read, and what it stands for may become another one.
func TestOnlyRead(t *testing.T) {
	for seed := range uint64(20) {
		l, other := grown(60, 6000+seed), grown(60, 7000+seed)
		h := past(t, l...)
		o := order.Of(h)
		again := order.Of(h)
		if !slices.EqualFunc(h.Records(), l, record.Same) || !slices.Equal(h.Mods(), past(t, l...).Mods()) || !slices.Equal(h.Txs(), past(t, l...).Txs()) {
			t.Fatalf("%s", telling(h.Records()))
		}
		*h = *past(t, other...)
		checkOrder(t, o, l)
		spoilAnswers(again)
		checkOrder(t, again, l)
		checkOrder(t, order.Of(h), other)
	}
}
