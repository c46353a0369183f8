package shape_test

import (
	"slices"
	"strings"
	"testing"

	"alibi/api"
	"alibi/pred"
	"alibi/record"
	"alibi/shape"
)

// checkLast asks that of a trace the last record, and none ahead of it, offends that rule; by Check, and by Step.
func checkLast(t *testing.T, l []record.Record, want api.Rule) {
	t.Helper()
	place := len(l) - 1
	if want == api.Right {
		place = len(l)
	}
	if at, rule := shape.Check(l...); at != place || rule != want {
		t.Errorf("%s: %d at %d, not %d", telling(l), rule, at, want)
	}
	m := machine(t, l[:len(l)-1]...)
	if rule := m.Step(l[len(l)-1]); rule != want || m.Len() != place {
		t.Errorf("%s: Step: %d, not %d", telling(l), rule, want)
	}
}

// P9.1: the chapter's examples.
func TestExamples(t *testing.T) {
	ahead := lines(t, "begin 1; write 1 5 30; begin 2")
	for _, x := range []struct {
		s    string
		want api.Rule
	}{
		{"read 1 5 0.0", api.NotOwn}, {"read 2 5 1.2", api.NoVersion}, {"read 2 5 1.1", api.Right},
		{"begin 1", api.Begun}, {"commit 3", api.Absent}, {"pred 1 all", api.OwnEntry},
		{"pred 2 v<=30 5:1.1:0", api.Match}, {"pred 2 v<=30 5:1.1:1", api.Right},
	} {
		checkLast(t, append(slices.Clone(ahead), line(t, x.s)), x.want)
	}
}

// P9.1: no records are well-formed.
func TestNoRecords(t *testing.T) {
	for _, l := range [][]record.Record{nil, {}} {
		if at, rule := shape.Check(l...); at != 0 || rule != api.Right {
			t.Errorf("%d, %d", at, rule)
		}
	}
}

// P9.1: each rule, behind records that are well-formed.
func TestRules(t *testing.T) {
	for _, trace := range []struct{ ahead, right, wrong string }{
		{"begin 9", "begin 1; begin 18446744073709551615; commit 9; abort 9; read 9 5 0.0; write 9 0 0; delete 9 7; pred 9 all; pred 9 all 5:0.0:0", ""},
		{"begin 9", "", "11 begin 0; 11 commit 0; 11 abort 0; 11 read 0 5 7.1; 11 write 0 1 1; 11 delete 0 1; 11 pred 0 all 5:0.0:1"},
		{"begin 9", "", "12 begin 9; 13 commit 1; 13 abort 1; 13 read 1 5 0.0; 13 write 1 5 5; 13 delete 1 5; 13 pred 1 all; 13 pred 1 all 5:3.4:1"},
		{"begin 9; commit 9", "begin 1", "12 begin 9; 14 commit 9; 14 abort 9; 14 read 9 5 0.0; 14 write 9 5 5; 14 delete 9 5; 14 pred 9 all"},
		{"begin 9; abort 9", "begin 8", "12 begin 9; 14 commit 9; 14 abort 9; 14 read 9 5 1.1; 14 write 9 5 5; 14 delete 9 5; 14 pred 9 all 5:1.1:1"},

		// versions that are there, of transactions that are open, committed and aborted
		{"begin 1; write 1 5 1; write 1 5 2; begin 2", "read 2 5 0.0; read 2 5 1.1; read 2 5 1.2; read 2 6 0.0",
			"15 read 2 5 1.0; 15 read 2 5 0.1; 15 read 2 5 1.3; 15 read 2 5 2.1; 15 read 2 6 1.1; 15 read 2 5 1.4294967297; 15 read 2 5 1.18446744073709551615; 15 read 2 5 18446744073709551615.1"},
		{"begin 1; delete 1 5; commit 1; begin 2", "read 2 5 0.0; read 2 5 1.1", "15 read 2 5 1.2"},
		{"begin 1; write 1 5 1; abort 1; begin 2", "read 2 5 0.0; read 2 5 1.1", "15 read 2 5 1.2"},
		{"begin 1; write 1 5 1; write 1 6 1; write 1 5 1; begin 2", "read 2 5 1.2; read 2 6 1.1", "15 read 2 6 1.2; 15 read 2 5 1.3"},

		// own latest versions
		{"begin 1; write 1 5 1; begin 2; write 2 5 1; write 2 5 1", "read 2 5 2.2; read 1 5 1.1; read 2 6 0.0", "16 read 2 5 2.1; 16 read 2 5 1.1; 16 read 2 5 0.0; 16 read 1 5 2.2; 15 read 2 5 2.3"},
		{"begin 2; write 2 5 1; delete 2 5", "read 2 5 2.2", "16 read 2 5 2.1; 16 read 2 5 0.0; 15 read 2 5 3.1"},
		{"begin 2; delete 2 0; begin 3; write 3 0 0", "read 2 0 2.1; read 3 0 3.1", "16 read 2 0 0.0; 16 read 2 0 3.1; 16 read 3 0 2.1"},

		// entries: objects that rise, versions that are there
		{"begin 1; write 1 5 1; write 1 6 1; commit 1; begin 2", "pred 2 all; pred 2 all 5:1.1:1; pred 2 all 6:1.1:1; pred 2 all 5:0.0:0 6:1.1:1 7:0.0:0; pred 2 all 0:0.0:0 18446744073709551615:0.0:0",
			"17 pred 2 all 6:1.1:1 5:1.1:1; 17 pred 2 all 5:1.1:1 5:1.1:1; 17 pred 2 all 5:1.1:1 5:0.0:0; 17 pred 2 all 4:0.0:0 6:1.1:1 5:1.1:1; 17 pred 2 all 18446744073709551615:0.0:0 0:0.0:0"},
		{"begin 1; write 1 5 1; write 1 6 1; commit 1; begin 2", "",
			"18 pred 2 all 5:1.2:1; 18 pred 2 all 5:1.2:0; 18 pred 2 all 5:1.0:0; 18 pred 2 all 5:0.1:0; 18 pred 2 all 7:1.1:0; 18 pred 2 all 5:1.1:1 6:2.1:1; 18 pred 2 all 5:1.18446744073709551615:1"},

		// own latest versions among the entries
		{"begin 1; write 1 5 1; write 1 5 2; write 1 7 1; begin 2; write 2 5 1", "pred 1 all 5:1.2:1 7:1.1:1; pred 1 all 4:0.0:0 5:1.2:1 6:0.0:0 7:1.1:1; pred 2 all 5:2.1:1; pred 2 all 5:2.1:1 7:1.1:1",
			"19 pred 1 all; 19 pred 1 all 5:1.2:1; 19 pred 1 all 7:1.1:1; 19 pred 1 all 5:1.1:1 7:1.1:1; 19 pred 1 all 5:0.0:0 7:1.1:1; 19 pred 1 all 5:2.1:1 7:1.1:1; 19 pred 1 all 4:0.0:0 6:0.0:0; 19 pred 2 all 5:1.2:1; 19 pred 2 all 7:1.1:1"},
		{"begin 1; write 1 5 1; delete 1 5", "pred 1 all 5:1.2:0", "19 pred 1 all; 19 pred 1 all 5:1.1:1; 20 pred 1 all 5:1.2:1"},
		{"begin 1; write 1 5 1; delete 1 5; write 1 5 9", "pred 1 v<=9 5:1.3:1; pred 1 v<=8 5:1.3:0", "19 pred 1 all 5:1.1:1; 19 pred 1 all 5:1.2:0; 20 pred 1 v<=8 5:1.3:1; 20 pred 1 v<=9 5:1.3:0"},

		// matches, of values, of what is dead, and of what is unborn
		{"begin 1; write 1 5 7; delete 1 6; begin 2", "pred 2 v<=7 5:1.1:1; pred 2 v<=6 5:1.1:0; pred 2 x<=5 5:1.1:1 6:1.1:0 7:0.0:0; pred 2 x<=4 5:1.1:0; pred 2 !x<=4 5:1.1:1 6:1.1:0 7:0.0:0; pred 2 |() 5:1.1:0; pred 2 &() 5:1.1:1 6:1.1:0",
			"20 pred 2 v<=7 5:1.1:0; 20 pred 2 v<=6 5:1.1:1; 20 pred 2 all 6:1.1:1; 20 pred 2 all 7:0.0:1; 20 pred 2 v<=0 6:1.1:1; 20 pred 2 !all 6:1.1:1; 20 pred 2 !v<=9 6:1.1:1; 20 pred 2 !v<=9 7:0.0:1; 20 pred 2 all 5:1.1:1 6:1.1:1; 20 pred 2 all 5:1.1:1 6:1.1:0 7:0.0:1; 20 pred 2 all 5:0.0:1"},
	} {
		for _, s := range strings.Split(trace.right, "; ") {
			if s != "" {
				checkLast(t, append(lines(t, trace.ahead), line(t, s)), api.Right)
			}
		}
		for _, s := range strings.Split(trace.wrong, "; ") {
			if s != "" {
				number, text, _ := strings.Cut(s, " ")
				checkLast(t, append(lines(t, trace.ahead), line(t, text)), ruleNamed(number))
			}
		}
	}
}

// ruleNamed is the rule of a number, as a text.
func ruleNamed(s string) api.Rule {
	n := api.Rule(0)
	for _, c := range s {
		n = 10*n + api.Rule(c-'0')
	}
	return n
}

// P9.1: of a record that offends more rules than one the lowest is told, whichever entries offend it.
func TestLowestRule(t *testing.T) {
	ahead := "begin 1; write 1 5 1; write 1 5 2; write 1 6 3; begin 2; write 2 7 1; begin 3; write 3 5 1; commit 3; begin 4; abort 4"
	for _, s := range []string{
		"13 read 9 5 9.9", "14 read 3 5 9.9", "14 read 3 5 0.0", "15 read 1 5 1.3", "15 read 1 5 9.1",
		"13 pred 9 all 5:9.9:1 5:9.9:1", "14 pred 3 all 5:9.9:1 5:9.9:1", "14 pred 3 all", "14 pred 4 all 6:0.0:1 5:0.0:1",
		"17 pred 1 all 7:9.9:1 5:1.1:0", "17 pred 1 all 5:1.2:0 6:9.9:1 6:9.9:1", "17 pred 1 all 6:0.0:1 5:0.0:1", "17 pred 2 all 5:9.9:0 7:9.9:0 7:9.9:0",
		"18 pred 1 all 5:1.1:0 6:1.1:0 7:9.9:0", "18 pred 1 all 5:1.2:0 6:9.9:1", "18 pred 1 all 7:9.9:1", "18 pred 1 all 0:0.0:1 7:9.9:0 8:0.0:1",
		"19 pred 1 all 5:1.2:0", "19 pred 1 all 5:1.1:0 6:1.1:0", "19 pred 1 all 0:0.0:1", "19 pred 1 all 0:0.0:1 5:1.2:1 6:0.0:0", "20 pred 1 all 0:0.0:0 5:1.2:1 6:1.1:0",
	} {
		number, text, _ := strings.Cut(s, " ")
		checkLast(t, append(lines(t, ahead), line(t, text)), ruleNamed(number))
	}
}

// P9.1: records of kinds that are none, and those that are not right, whatever stands ahead, and whatever else they offend.
func TestSpoilt(t *testing.T) {
	for _, ahead := range []string{"begin 9", "begin 1", "begin 1; write 1 1 1", "begin 1; commit 1"} {
		for _, r := range spoilt() {
			want := api.Payload
			if r.Kind < record.Begin || r.Kind > record.Abort {
				want = api.Kind
			}
			checkLast(t, append(lines(t, ahead), r), want)
			for _, name := range []uint64{0, 1, 7, top} {
				r.T = name
				checkLast(t, []record.Record{r}, want)
			}
		}
	}
}

// P9.1: lists that are empty for those that are nil mean the same.
func TestEmptyLists(t *testing.T) {
	none, some := []record.Entry{}, []pred.Expr{}
	l := []record.Record{
		{Kind: record.Begin, T: 1, Entries: none, P: pred.Expr{Parts: some}},
		{Kind: record.Write, T: 1, X: 5, Entries: none},
		{Kind: record.Read, T: 1, X: 5, V: version(1, 1), P: pred.Expr{Parts: some}},
		{Kind: record.Begin, T: 2},
		{Kind: record.Pred, T: 2, P: pred.Expr{Kind: pred.And, Parts: some}, Entries: none},
		{Kind: record.Pred, T: 1, P: pred.Expr{Kind: pred.And, Parts: some}, Entries: none},
	}
	checkLast(t, l, api.OwnEntry)
	checkLast(t, l[:5], api.Right)
}

// P9.1: Check tells the first record that offends, and goes no further.
func TestFirstOffence(t *testing.T) {
	l := lines(t, "begin 1; write 1 5 1; read 1 5 1.1; begin 2; read 2 5 1.1; commit 1; pred 2 all 5:1.1:1; abort 2")
	for at := range l {
		for _, r := range append(spoilt(), lines(t, "begin 0; commit 0; commit 77; read 77 5 0.0")...) {
			bad := slices.Insert(slices.Clone(l), at, r, record.Record{}, record.Record{Kind: record.Begin})
			if got, rule := shape.Check(bad...); got != at || rule != ruleByWords(l[:at], r) {
				t.Errorf("%d: kind %d, T %d: %d at %d", at, r.Kind, r.T, rule, got)
			}
		}
	}
	if at, rule := shape.Check(l...); at != len(l) || rule != api.Right {
		t.Errorf("%d, %d", at, rule)
	}
}

// P9.1: a record of each kind behind each of a few short traces, against the words.
func TestAllShort(t *testing.T) {
	of := lines(t, "begin 1; begin 2; write 1 5 1; write 2 5 2; delete 1 5; commit 1; abort 2; read 1 5 0.0; read 1 5 1.1; read 1 5 2.1; read 2 5 1.2; "+
		"pred 1 all; pred 1 all 5:1.1:1; pred 2 v<=1 5:1.1:1; pred 2 v<=1 5:2.1:0; pred 1 v<=1 5:1.2:0")
	found := map[api.Rule]int{}
	var try func(l []record.Record)
	try = func(l []record.Record) {
		for _, r := range of {
			want := ruleByWords(l, r)
			longer := append(slices.Clone(l), r)
			at, rule := shape.Check(longer...)
			if rule != want || (at == len(longer)) != (want == api.Right) {
				t.Fatalf("%s: %d at %d, not %d", telling(longer), rule, at, want)
			}
			found[rule]++
			if rule == api.Right && len(longer) < 6 {
				try(longer)
			}
		}
	}
	try(nil)
	for _, rule := range []api.Rule{api.Right, api.Begun, api.Absent, api.Ended, api.NoVersion, api.NotOwn, api.NoEntry, api.OwnEntry, api.Match} {
		if found[rule] < 50 {
			t.Errorf("%d: %d times", rule, found[rule])
		}
	}
}

// P9.1 to P9.3: grown traces against the words, all rules among them; a record that offends leaves all as it was.
func TestGrown(t *testing.T) {
	found := map[api.Rule]int{}
	for seed := range uint64(150) {
		g := grow(seed)
		var m shape.Machine
		for range 120 {
			r := g.next()
			want := ruleByWords(g.had, r)
			if rule := m.Step(r); rule != want {
				t.Fatalf("%s; %s: %d, not %d", telling(g.had), record.Text(r), rule, want)
			}
			found[want]++
			if want == api.Right {
				g.had = append(g.had, r)
			}
			if m.Len() != len(g.had) {
				t.Fatalf("%s: %d", telling(g.had), m.Len())
			}
			if g.IntN(40) == 0 {
				checkMachine(t, &m, g.had)
			}
		}
		checkMachine(t, &m, g.had)
	}
	for _, rule := range []api.Rule{0, 4, 5, 11, 12, 13, 14, 15, 16, 17, 18, 19, 20} {
		if found[rule] < 20 {
			t.Errorf("%d: %d times", rule, found[rule])
		}
	}
}
