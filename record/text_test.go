package record_test

import (
	"slices"
	"strings"
	"testing"

	"alibi/api"
	"alibi/record"
)

// refused tells whether Line answers that a text is none's.
func refused(s string) bool {
	r, e := record.Line(s)
	return e == api.ErrRecord && sameByWords(r, record.Record{})
}

// P5.3: records' texts.
func TestText(t *testing.T) {
	for _, x := range []struct {
		r    record.Record
		want string
	}{
		{begin(9), "begin 9"},
		{begin(0), "begin 0"},
		{read(7, 300, 2, 1), "read 7 300 2.1"},
		{read(9, 128, 0, 0), "read 9 128 0.0"},
		{write(1, 2, 300), "write 1 2 300"},
		{write(top, 0, top), "write 18446744073709551615 0 18446744073709551615"},
		{erase(1, 2), "delete 1 2"},
		{ask(3, all()), "pred 3 all"},
		{ask(1, all(), entry(5, 0, 0, false)), "pred 1 all 5:0.0:0"},
		{ask(1, both(xMost(7), not(all())), entry(1, 2, 3, true), entry(4, 0, 0, false)), "pred 1 &(x<=7,!all) 1:2.3:1 4:0.0:0"},
		{commit(100), "commit 100"},
		{abort(1 << 63), "abort 9223372036854775808"},
	} {
		if s := record.Text(x.r); s != x.want {
			t.Errorf("%q, not %q", s, x.want)
		}
		if r, e := record.Line(x.want); e != api.OK || !sameByWords(r, x.r) {
			t.Errorf("%q: %+v, %d", x.want, r, e)
		}
	}
	for i, r := range spoilt() {
		if s := record.Text(r); s != "" {
			t.Errorf("not right, %d: %q", i, s)
		}
	}
}

// P5.3, P5.5: what was told is read as it was; with more about it, it is none's; no two are told alike.
func TestLineGrown(t *testing.T) {
	told := map[string]record.Record{}
	for i, r := range slices.Concat(ones(), grown(3500)) {
		s := record.Text(r)
		if s != textByWords(r) || record.Text(emptied(r)) != s {
			t.Fatalf("%d: %q, not %q", i, s, textByWords(r))
		}
		if q, e := record.Line(s); e != api.OK || !sameByWords(q, r) {
			t.Errorf("%d: %q: %+v, %d", i, s, q, e)
		}
		for _, more := range []string{" ", "\n", "\t", "\x00", ".", ":", ",", "é", " 1.", " a", " begin", " 1:2.3", " 1:2.3:2"} {
			if !refused(s+more) || !refused(more+s) {
				t.Errorf("%d: %q with %q", i, s, more)
			}
		}
		if !refused(strings.Replace(s, " ", "  ", 1)) || !refused(strings.Replace(s, " ", "\t", 1)) || !refused(strings.ToUpper(s[:1])+s[1:]) {
			t.Errorf("%d: %q changed", i, s)
		}
		if q, ok := told[s]; ok && !sameByWords(q, r) {
			t.Errorf("told alike: %q", s)
		}
		told[s] = r
	}
}

// P5.3: words that are too few, or too many, and of each text all that is cut off.
func TestLineCut(t *testing.T) {
	for i, r := range slices.Concat(ones(), grown(350)) {
		s := textByWords(r)
		words := strings.Split(s, " ")
		for n := range words {
			checkLine(t, strings.Join(words[:n], " "))
			checkLine(t, strings.Join(slices.Concat(words[:n], []string{"1"}, words[n:]), " "))
			checkLine(t, strings.Join(slices.Concat(words[:n], words[n+1:]), " "))
			few := n
			if r.Kind == record.Pred {
				few = min(n, 2)
			}
			if !refused(strings.Join(words[:few], " ")) || !refused(strings.Join(words[:few], " ")+" ") {
				t.Errorf("%d: %q", i, strings.Join(words[:few], " "))
			}
		}
		if !refused(s+" 1") || !refused(s+" 1.1") {
			t.Errorf("%d: %q and more", i, s)
		}
		for n := range s {
			checkLine(t, s[:n])
		}
	}
}

// checkLine asks of any text what Line promises of it: the record whose text it is, or none.
func checkLine(t *testing.T, s string) {
	t.Helper()
	r, e := record.Line(s)
	if e == api.OK && (!rightByWords(r) || textByWords(r) != s) {
		t.Errorf("%q: %+v", s, r)
	}
	if e != api.OK && !refused(s) {
		t.Errorf("%q: %+v, %d", s, r, e)
	}
}

// P5.3: texts that are none's.
func TestLineWrong(t *testing.T) {
	for _, s := range []string{
		"", " ", "  ", "begin", "begin ", " begin 1", "begin  1", "begin 1 ", "begin 1  ", "begin 1 2", "begin\t1", "begin\n1", "begin 1\n", "begin1", "Begin 1", "BEGIN 1", "beginn 1", "begi 1", "1", "1 1", "5 1 all", "stop 1", "kind 1", " 1", "\xff 1", "# begin 1",
		"begin 01", "begin 00", "begin -1", "begin -0", "begin +1", "begin 1.0", "begin 0x1", "begin 1_0", "begin 1e1", "begin a", "begin ٣", "begin 1,", "begin 18446744073709551616", "begin 99999999999999999999", "begin 018446744073709551615",
		"commit", "commit 01", "commit 18446744073709551616", "commit 1 1", "abort", "abort x", "abort 1 1",
		"read", "read 1", "read 1 2", "read 1 2 ", "read 1 2 3", "read 1 2 3.", "read 1 2 .3", "read 1 2 .", "read 1 2 3.4.5", "read 1 2 3..4", "read 1 2 3. 4", "read 1 2 3 .4", "read 1 2 3 4", "read 1 2 3,4", "read 1 2 3:4", "read 1 2 03.4", "read 1 2 3.04", "read 1 2 3.00", "read 1 2 -3.4", "read 1 2 3.-4", "read 1 2 3.4 5", "read 1 2 3.4 ", "read 1 2 3.4 5.6", "read 1 2.3 4", "read 1.2 3 4.5", "read 1 2 18446744073709551616.1", "read 1 2 1.18446744073709551616",
		"write", "write 1", "write 1 2", "write 1 2 ", "write 01 2 3", "write 1 02 3", "write 1 2 03", "write 1 2 -3", "write 1 2 3.4", "write 1 2 3 4", "write 1 2 3 ", "write 1  2 3", "write 1 2  3", "write 1 2 18446744073709551616",
		"delete", "delete 1", "delete 1 ", "delete 1 2 3", "delete 1 02", "delete 1 2.3", "delete 1 2 ", "del 1 2",
		"pred", "pred 1", "pred 1 ", "pred all", "pred all 1", "pred 01 all", "pred 1 alll", "pred 1 al", "pred 1 All", "pred 1  all", "pred 1 all ", "pred 1 all  1:2.3:1", "pred 1 all 1:2.3:1 ", "pred 1 all 1:2.3:1  4:5.6:0",
		"pred 1 v%3=3", "pred 1 x<=07", "pred 1 &(all,)", "pred 1 &(all, all)", "pred 1 !!!!!!!!all", "pred 1 !", "pred 1 all all", "pred 1 1:2.3:1", "pred 1 1:2.3:1 all", "pred 1 &(" + strings.Repeat("all,", 31) + "all)",
		"pred 1 all 1", "pred 1 all 1:", "pred 1 all 1:2", "pred 1 all 1:2.3", "pred 1 all 1:2.3:", "pred 1 all :2.3:1", "pred 1 all 1::1", "pred 1 all 1:.3:1", "pred 1 all 1:2.:1", "pred 1 all 1:2:3", "pred 1 all 1:2:1", "pred 1 all 1:2.3:2", "pred 1 all 1:2.3:01", "pred 1 all 1:2.3:00", "pred 1 all 1:2.3:true", "pred 1 all 1:2.3:-1", "pred 1 all 1:2.3:+1", "pred 1 all 1:2.3:10", "pred 1 all 1:2.3:1:1", "pred 1 all 1:2.3:1:", "pred 1 all 1.2.3:1", "pred 1 all 1:2.3.1", "pred 1 all 1.2:3:1", "pred 1 all 1:2.3.4:1", "pred 1 all 01:2.3:1", "pred 1 all 1:02.3:1", "pred 1 all 1:2.03:1", "pred 1 all 1:2.3:1,4:5.6:0", "pred 1 all 1:2.3:1 4", "pred 1 all 4 1:2.3:1", "pred 1 all 1:2.3:1 4:5.6:2", "pred 1 all 1:2.3:2 4:5.6:1", "pred 1 all ::", "pred 1 all ::.", "pred 1 all 18446744073709551616:1.1:1",
		strings.Repeat(" ", 1<<20), "begin" + strings.Repeat(" ", 1<<20), "begin " + strings.Repeat("9", 1<<20), "begin " + strings.Repeat("0", 1<<20), "pred 1 all" + strings.Repeat(" 1", 1<<20), "pred 1 " + strings.Repeat("!", 1<<20), "pred 1 all " + strings.Repeat(":", 1<<20),
	} {
		if !refused(s) {
			r, e := record.Line(s)
			t.Errorf("%.60q: %+v, %d", s, r, e)
		}
	}
}

// P5.3, P5.5: whatever is read of changed texts is right, and is told as it was.
func TestLineChanged(t *testing.T) {
	letters := "abdegimnoprtw 0129.:-+!&(),<=%xv\n"
	for _, r := range slices.Concat(ones(), grown(63)) {
		s := textByWords(r)
		for i := range s {
			checkLine(t, s[:i]+s[i+1:])
			for _, c := range letters {
				checkLine(t, s[:i]+string(c)+s[i+1:])
				checkLine(t, s[:i]+string(c)+s[i:])
			}
		}
	}
}

// P5.3, P5.5: of all short tails just those are read behind a kind's word that tell its parts.
func TestLineShort(t *testing.T) {
	var is []string
	for _, a := range []string{"0", "1", "10", "11"} {
		is = append(is, "begin "+a, "commit "+a, "abort "+a)
		for _, b := range []string{"0", "1", "10", "11"} {
			is = append(is, "delete "+a+" "+b, "read 0 1 "+a+"."+b, "read "+a+" "+b+" 1.0")
			for _, c := range []string{"0", "1"} {
				is = append(is, "write "+a+" "+b+" "+c, "write "+c+" "+a+" "+b)
			}
		}
	}
	for _, s := range is {
		if refused(s) {
			t.Errorf("%q", s)
		}
	}
	for _, name := range []string{"begin", "commit", "abort", "delete", "write", "read"} {
		for n := range 8 {
			for _, b := range short(n, '0', '1', ' ', '.') {
				checkLine(t, name+" "+string(b))
			}
		}
	}
}

// P5.3, P5.5: of all short words just the entries' are read as entries.
func TestLineShortEntries(t *testing.T) {
	found := 0
	for n := range 8 {
		for _, b := range short(n, '0', '1', '2', ':', '.') {
			s := "pred 1 all " + string(b)
			checkLine(t, s)
			if !refused(s) {
				found++
			}
		}
	}
	// 3 digits for X, W and N, 2 for M.
	if found != 3*3*3*2 {
		t.Errorf("%d found", found)
	}
}

// P5.4: what is told is only read, and what is read has no memory of another answer.
func TestTextMemory(t *testing.T) {
	for i, r := range slices.Concat(ones(), strangers(), grown(210)) {
		r = withRoom(r)
		was := textOfAll(r)
		s := record.Text(r)
		if textOfAll(r) != was {
			t.Errorf("%d: %s, not %s", i, textOfAll(r), was)
		}
		one, _ := record.Line(s)
		two, _ := record.Line(s)
		checkApart(t, two, one)
		if s != "" && !sameByWords(two, r) {
			t.Errorf("%d: %+v", i, two)
		}
	}
}
