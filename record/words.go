package record

import (
	"strconv"
	"strings"

	"alibi/api"
	"alibi/pred"
)

// words reads parts from a text, word by word. What it tells when it has become bad counts for nothing.
type words struct {
	left string // each word of it has a blank ahead
	bad  bool
}

// next reads a word. (Where none is left that is nothing, which is no part's text.)
func (w *words) next() string {
	rest := strings.TrimPrefix(w.left, " ")
	word, _, _ := strings.Cut(rest, " ")
	w.left = rest[len(word):]
	return word
}

// number is the number that s tells.
func (w *words) number(s string) uint64 {
	v, err := strconv.ParseUint(s, 10, 64)
	if err != nil || decimal(v) != s { // it may have noughts ahead
		w.bad = true
		return 0
	}
	return v
}

// version is the version whose text s is. (Where there is no point, nothing is behind it, which is no number.)
func (w *words) version(s string) Version {
	writer, n, _ := strings.Cut(s, ".")
	return Version{W: w.number(writer), N: w.number(n)}
}

// predicate is the predicate whose text s is.
func (w *words) predicate(s string) pred.Expr {
	p, e := pred.Read(s)
	if e != api.OK {
		w.bad = true
	}
	return p
}

// entries reads all words that are left as entries.
func (w *words) entries() []Entry {
	var l []Entry
	for w.left != "" && !w.bad {
		l = append(l, w.entry(w.next()))
	}
	return l
}

// entry is the entry that s tells.
func (w *words) entry(s string) Entry {
	x, rest, _ := strings.Cut(s, ":")
	v, m, _ := strings.Cut(rest, ":")
	if m != "1" && m != "0" {
		w.bad = true
	}
	return Entry{X: w.number(x), V: w.version(v), M: m == "1"}
}

// tellEntries are the words that tell entries.
func tellEntries(l ...Entry) []string {
	var told []string
	for _, e := range l {
		told = append(told, joined(":", decimal(e.X), e.V.Text(), decimal(uint64(digit(e.M)))))
	}
	return told
}

// decimal is a number's text.
func decimal(v uint64) string { return strconv.FormatUint(v, 10) }

// joined are words with a mark between.
func joined(mark string, l ...string) string { return strings.Join(l, mark) }
