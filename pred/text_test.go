package pred_test

import (
	"strings"
	"testing"

	"alibi/api"
	"alibi/pred"
)

// refused tells whether Read answers that a text is none's.
func refused(s string) bool {
	p, e := pred.Read(s)
	return e == api.ErrPred && pred.Same(p, pred.Expr{})
}

// P4.3: predicates' texts.
func TestText(t *testing.T) {
	for i, x := range []struct {
		p    pred.Expr
		want string
	}{
		{all(), "all"},
		{xMost(0), "x<=0"},
		{xMost(7), "x<=7"},
		{vMost(10), "v<=10"},
		{xMost(top), "x<=18446744073709551615"},
		{vMost(1 << 63), "v<=9223372036854775808"},
		{vMod(3, 1), "v%3=1"},
		{vMod(1, 0), "v%1=0"},
		{vMod(top, top-1), "v%18446744073709551615=18446744073709551614"},
		{not(all()), "!all"},
		{nots(7, all()), "!!!!!!!all"},
		{and(), "&()"},
		{or(), "|()"},
		{and(all()), "&(all)"},
		{or(all(), all(), xMost(1)), "|(all,all,x<=1)"},
		{and(xMost(7), not(vMod(3, 1))), "&(x<=7,!v%3=1)"},
		{not(and(or(), not(or(and(), vMost(3))), vMod(5, 0))), "!&(|(),!|(&(),v<=3),v%5=0)"},
		{and(alls(31)...), "&(" + strings.Repeat("all,", 30) + "all)"},
	} {
		if s := pred.Text(x.p); s != x.want {
			t.Errorf("%d: %q, not %q", i, s, x.want)
		}
		if p, e := pred.Read(x.want); e != api.OK || !pred.Same(p, x.p) {
			t.Errorf("%d: %v, %d", i, p, e)
		}
	}
	for i, p := range spoilt() {
		if s := pred.Text(p); s != "" {
			t.Errorf("not right, %d: %q", i, s)
		}
	}
}

// P4.3, P4.6: what was told is read as it was; with more at an end it is none's.
func TestReadGrown(t *testing.T) {
	for i, p := range grown(3000) {
		s := pred.Text(p)
		if s != textByWords(p) {
			t.Errorf("%d: %q, not %q", i, s, textByWords(p))
		}
		if q, e := pred.Read(s); e != api.OK || !pred.Same(p, q) {
			t.Errorf("%d: %q: %v, %d", i, s, q, e)
		}
		for _, more := range []string{" ", ",", ")", "all", "\x00", "\n", "=", "é"} {
			if !refused(s+more) || !refused(more+s) {
				t.Errorf("%d: %q with %q", i, s, more)
			}
		}
	}
}

// P4.3: texts that are none's.
func TestReadWrong(t *testing.T) {
	for i, s := range []string{
		"", " ", "a", "al", "ALL", "All", "alll", "all ", " all", "all,all", "all)", "(all)", "true",
		"x", "x<", "x<=", "x<7", "x=7", "x<==7", "x<= 7", "x <=7", "X<=7", "x>=7", "x<=-1", "x<=+7", "x<=-0", "x<=7.0", "x<=0x7", "x<=1_0", "x<=1e1", "x<=a", "x<=٣",
		"x<=00", "x<=01", "x<=07", "v<=007", "x<=18446744073709551616", "x<=99999999999999999999", "x<=018446744073709551615", "v<=184467440737095516150",
		"x<=" + strings.Repeat("0", 1000), "x<=" + strings.Repeat("9", 1000), "y<=7", "v<=", "v<=,", "v<7",
		"v", "v%", "v%3", "v%3=", "v%=1", "v%3=3", "v%3=4", "v%0=0", "v%0=1", "v%3=01", "v%03=1", "v%3==1", "v%3=1=1", "v%3 =1", "v%-3=1", "x%3=1", "v%18446744073709551616=1", "v%3=18446744073709551616",
		"!", "!!", "!()", "!(all)", "! all", "!all,all", "!v%3=3", "!)", "not all",
		"&", "|", "&(", "|(", "&)", "()", "&all", "&(all", "&(all,", "&(all,)", "&(,all)", "&(,)", "&(all,,all)", "&(all all)", "&(all, all)", "&( all)", "&( )", "&(all) ", "&&()", "&(all))", "&((all))",
		"&(all;all)", "|(all|all)", "&()()", "&(),&()", "&(v%3=3)", "|(all,x<=07)", "&[all]", "|(&(all)", "&(all,v%2)",
		"!!!!!!!!all", "!!!!!!!!!all", "!!!!!!!&(all)", "&(&(&(&(&(&(&(&(all))))))))", "&(&(&(&(&(&(&(&(&()))))))))",
		"&(" + strings.Repeat("all,", 31) + "all)", "|(" + strings.Repeat("all,", 999) + "all)", "&(!" + strings.Repeat("all,", 30) + "all)",
		strings.Repeat("!", 1<<20), strings.Repeat("!", 1<<20) + "all", strings.Repeat("&(", 1<<20), "&(" + strings.Repeat("all,", 1<<20), strings.Repeat("|(all,", 1<<20),
		"\xff", "all\xff", "x<=\xff7", "x\xe2\x89\xa47",
	} {
		if !refused(s) {
			p, e := pred.Read(s)
			t.Errorf("%d: %.40q: %v, %d", i, s, p, e)
		}
	}
}

// P4.3: up to 8 levels and up to 32 nodes are read.
func TestReadLimits(t *testing.T) {
	for i, s := range []string{
		"!!!!!!!all", "!!!!!!!&()", "&(&(&(&(&(&(&(&(", "&(" + strings.Repeat("all,", 30) + "all)", "|(!" + strings.Repeat("all,", 29) + "all)",
		"&(!!!!!!all" + strings.Repeat(",v<=1", 24) + ")",
	} {
		s += strings.Repeat(")", strings.Count(s, "(")-strings.Count(s, ")"))
		if p, e := pred.Read(s); e != api.OK || !rightByWords(p) || textByWords(p) != s {
			t.Errorf("%d: %v, %d", i, p, e)
		}
	}
}

// P4.3, P4.6: of all short texts of these letters just the predicates' are read.
func TestReadShort(t *testing.T) {
	is := map[string]bool{"all": true, "!all": true, "!!all": true, "v%1=0": true}
	for _, s := range []string{"", "!", "!!"} {
		for _, list := range []string{"&()", "|()"} {
			is[s+list] = true
		}
	}
	for _, s := range []string{"", "!"} {
		for _, n := range []string{"0", "1", "10", "11"} {
			for _, word := range []string{"x<=", "v<="} {
				is[s+word+n] = true
			}
		}
	}
	found, want := 0, 0
	for s := range is {
		if len(s) <= 5 {
			want++
		}
	}
	letters := []byte("alxv<=%!&|(),01 ")
	for n := range 6 {
		for _, b := range rows(n, letters) {
			s := string(b)
			if refused(s) == is[s] {
				t.Fatalf("%q", s)
			}
			if is[s] {
				found++
			}
		}
	}
	if found != want {
		t.Errorf("%d found, of %d", found, want)
	}
}

// P4.3, P4.6: whatever is read of changed texts is right, and is told as it was.
func TestReadChanged(t *testing.T) {
	letters := "alxv<=%!&|(),01 "
	for _, p := range grown(200) {
		s := pred.Text(p)
		for i := range s {
			for _, c := range letters {
				for _, text := range []string{s[:i] + string(c) + s[i+1:], s[:i] + string(c) + s[i:], s[:i] + s[i+1:]} {
					q, e := pred.Read(text)
					if e == api.OK && (!rightByWords(q) || textByWords(q) != text) || e != api.OK && !refused(text) {
						t.Errorf("%q: %v, %d", text, q, e)
					}
				}
			}
		}
	}
}

// P4.6: no two predicates stand alike, nor are told alike.
func TestNoTwoAlike(t *testing.T) {
	told, stand := map[string]pred.Expr{}, map[string]pred.Expr{}
	for _, p := range append(grown(3000), treesOf(4, few())...) {
		s, b := pred.Text(p), string(pred.Put(p))
		if q, ok := told[s]; ok && !pred.Same(p, q) {
			t.Errorf("told alike: %q", s)
		}
		if q, ok := stand[b]; ok && !pred.Same(p, q) {
			t.Errorf("stand alike: %v", b)
		}
		told[s], stand[b] = p, p
	}
	if len(told) != len(stand) {
		t.Errorf("%d texts, %d of bytes", len(told), len(stand))
	}
}
