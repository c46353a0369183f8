package wire_test

import (
	"math/rand/v2"
	"slices"
	"strings"
	"testing"

	"alibi/api"
	"alibi/record"
	"alibi/wire"
)

// checkLines asks for records that lines are to tell, and how many lines there are to be.
func checkLines(t *testing.T, s string, many int, want ...record.Record) {
	t.Helper()
	if l, n, e := wire.Lines(s); !sameTrace(l, want) || n != many || e != api.OK {
		t.Errorf("%.200q: %d records, %d, %d, not %d, %d", s, len(l), n, e, len(want), many)
	}
}

// checkNoLines asks for an error, and its line.
func checkNoLines(t *testing.T, s string, line int, want api.Errno) {
	t.Helper()
	if l, n, e := wire.Lines(s); len(l) != 0 || n != line || e != want {
		t.Errorf("%.200q: %d records, %d, %d, not %d, %d", s, len(l), n, e, line, want)
	}
}

// P6.3: lines, written out.
func TestText(t *testing.T) {
	want := "begin 1\nwrite 1 5 300\nread 1 5 1.1\npred 1 !v%300=7 4:0.0:0 5:1.1:1\ndelete 1 5\ncommit 1\nabort 18446744073709551615\n"
	if s, e := wire.Text(ones()...); s != want || e != api.OK {
		t.Errorf("%q, %d", s, e)
	}
	checkLines(t, want, 7, ones()...)
	for _, l := range [][]record.Record{nil, {}} {
		if s, e := wire.Text(l...); s != "" || e != api.OK {
			t.Errorf("of nothing: %q, %d", s, e)
		}
	}
	if s, e := wire.Text(begin(0)); s != "begin 0\n" || e != api.OK {
		t.Errorf("%q, %d", s, e)
	}
}

// P6.3: a record that is not right, wherever it stands.
func TestTextWrong(t *testing.T) {
	for i, r := range spoilt() {
		for at := range len(ones()) + 1 {
			if s, e := wire.Text(slices.Insert(ones(), at, r)...); s != "" || e != api.ErrRecord {
				t.Errorf("%d at %d: %q, %d", i, at, s, e)
			}
		}
		if s, e := wire.Text(r); s != "" || e != api.ErrRecord {
			t.Errorf("%d: %q, %d", i, s, e)
		}
	}
}

// P6.3: as many records as may be, and one more, whose error comes first.
func TestTextLimit(t *testing.T) {
	most := many(65536)
	if s, e := wire.Text(most...); s != strings.Repeat("commit 1\n", 65536) || e != api.OK {
		t.Errorf("%d bytes, %d", len(s), e)
	}
	for _, more := range []record.Record{begin(1), {}} {
		if s, e := wire.Text(append(most, more)...); s != "" || e != api.ErrLimit {
			t.Errorf("one more: %d bytes, %d", len(s), e)
		}
	}
	most[0] = record.Record{}
	if s, e := wire.Text(most...); s != "" || e != api.ErrRecord {
		t.Errorf("a wrong one: %d bytes, %d", len(s), e)
	}
	if s, e := wire.Text(append(most, begin(1))...); s != "" || e != api.ErrLimit {
		t.Errorf("a wrong one, and one more: %d bytes, %d", len(s), e)
	}
}

// P6.3: how many lines there are, and which of them count for nothing.
func TestLines(t *testing.T) {
	for _, x := range []struct {
		s    string
		many int
	}{{"", 0}, {"\n", 1}, {"\n\n", 2}, {"#", 1}, {"#\n", 1}, {"#\n\n", 2}, {"\n#", 2}, {"# begin 1\n", 1}, {"##\n#begin 1\n#", 3}, {"#\xff\x00 é\r\n", 1}} {
		checkLines(t, x.s, x.many)
	}
	for _, x := range []struct {
		s    string
		many int
	}{
		{"begin 1\ncommit 1\n", 2}, {"begin 1\ncommit 1", 2}, {"begin 1\ncommit 1\n\n", 3}, {"begin 1\ncommit 1\n#", 3}, {"begin 1\ncommit 1\n#\n", 3},
		{"\nbegin 1\n\n\ncommit 1", 5}, {"#a\nbegin 1\n#commit 1\n\n# \ncommit 1\n", 6}, {"begin 1\n#\ncommit 1\n#\n\n", 5},
	} {
		checkLines(t, x.s, x.many, begin(1), commit(1))
	}
	checkLines(t, "begin 1\nbegin 1\nbegin 1", 3, begin(1), begin(1), begin(1))
}

// P6.3: lines that are none's text: the first one's number is told.
func TestLinesWrong(t *testing.T) {
	checkNoLines(t, "begin 1\n#\n\ncommit x", 4, api.ErrRecord) // the chapter's example
	for _, bad := range []string{
		" ", "\t", "\r", " #", "\t#", "x", "begin", "begin ", " begin 1", "begin 1 ", "begin  1", "begin 01", "begin 1\r", "begin 1 #", "begin 1#", "begin 1;commit 1", "begin 1 commit 1",
		"Begin 1", "begin -1", "begin 18446744073709551616", "begin 1\x00", "\x00", "\x0b", "\u2028", "\ufeffbegin 1", "read 1 5 1", "read 1 5", "write 1 5", "delete 1", "pred 1", "pred 1 x", "pred 1 all 5:0.0:2", "//",
	} {
		checkNoLines(t, bad, 1, api.ErrRecord)
		checkNoLines(t, bad+"\n", 1, api.ErrRecord)
		checkNoLines(t, bad+"\n"+bad+"\nbegin 1\n", 1, api.ErrRecord)
		checkNoLines(t, "\n#\n"+bad, 3, api.ErrRecord)
		checkNoLines(t, "begin 1\n\ncommit 1\n# \n"+bad+"\nbegin 2\n", 5, api.ErrRecord)
		checkLines(t, "begin 1\n#"+bad+"\n#\n", 3, begin(1))
	}
}

// P6.3: the line of record 65537 is told, or one ahead that is none's text, whichever comes first.
func TestLinesLimit(t *testing.T) {
	most := many(65536)
	full := textByWords(most...)
	checkLines(t, full, 65536, most...)
	checkLines(t, full[:len(full)-1], 65536, most...)
	checkLines(t, "#\n"+full+"#commit 1\n\n", 65539, most...)
	checkNoLines(t, full+"commit 1", 65537, api.ErrLimit)
	checkNoLines(t, full+"commit 1\n", 65537, api.ErrLimit)
	checkNoLines(t, full+full, 65537, api.ErrLimit)
	checkNoLines(t, "#\n\n"+full+"\n#\nbegin 1\nbegin 1\n", 65541, api.ErrLimit)
	checkNoLines(t, full+"commit 1\nx\n", 65537, api.ErrLimit)
	checkNoLines(t, full+"x\ncommit 1\n", 65537, api.ErrRecord)
	checkNoLines(t, full+"\n \ncommit 1\n", 65538, api.ErrRecord)
	checkNoLines(t, "#\nx\n"+full+"commit 1\n", 2, api.ErrRecord)
	checkNoLines(t, textByWords(most[1:]...)+"x\n"+full, 65536, api.ErrRecord)
}

// P6.5: what was told as lines is told as it was, also with lines between that count for nothing.
func TestLinesGrown(t *testing.T) {
	r := rand.New(rand.NewPCG(6, 60))
	for seed := range uint64(200) {
		l := grown(int(seed), seed)
		s, e := wire.Text(l...)
		if s != textByWords(l...) || e != api.OK {
			t.Fatalf("%d: %q, %d", seed, s, e)
		}
		checkLines(t, s, len(l), l...)
		lines := len(l)
		spaced := ""
		for part := range strings.Lines(s) {
			for range r.IntN(3) {
				spaced += []string{"\n", "#\n", "# begin 1\n", "#" + part}[r.IntN(4)]
				lines++
			}
			spaced += part
		}
		checkLines(t, spaced, lines, l...)
		if again, _, _ := wire.Lines(spaced); len(again) > 0 {
			if told, e := wire.Text(again...); told != s || e != api.OK {
				t.Errorf("%d: %q, %d", seed, told, e)
			}
			b, _ := wire.Encode(again...)
			if back, _, rule := wire.Records(b); rule != api.Right || !sameTrace(back, l) {
				t.Errorf("%d: by bytes: %v, %d", seed, back, rule)
			}
		}
	}
}

// P6.3: each beginning of a trace's lines: whole lines ahead of the cut are told, or the line that is cut.
func TestLinesCut(t *testing.T) {
	l := ones()
	s := textByWords(l...)
	for i := range len(s) + 1 {
		ahead := strings.Count(s[:i], "\n")
		rest := s[strings.LastIndex(s[:i], "\n")+1 : i]
		r, e := record.Line(rest)
		if rest == "" {
			checkLines(t, s[:i], ahead, l[:ahead]...)
		} else if e == api.OK {
			checkLines(t, s[:i], ahead+1, append(slices.Clone(l[:ahead]), r)...)
		} else {
			checkNoLines(t, s[:i], ahead+1, api.ErrRecord)
		}
	}
}

// P6.4: what is told is only read, and what is answered is new memory.
func TestLinesMemory(t *testing.T) {
	l := append(ones(), grown(30, 3)...)
	was := copied(l)
	back := append(slices.Clone(l), begin(77))
	s, _ := wire.Text(back[:len(l)]...)
	if !sameTrace(l, was) || !sameTrace(back, append(slices.Clone(was), begin(77))) {
		t.Errorf("changed: %v", back)
	}
	one, _, _ := wire.Lines(s)
	two, _, _ := wire.Lines(s)
	for i, r := range one { // record by record: those behind it stay what they were
		if !record.Same(r, was[i]) {
			t.Errorf("%d is shared: %v", i, r)
		}
		blot(r)
	}
	clear(one)
	for _, r := range l {
		blot(r)
	}
	if !sameTrace(two, was) || s != textByWords(was...) {
		t.Errorf("kept, or shared: %v", two)
	}
}
