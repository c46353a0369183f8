package record

import (
	"alibi/api"
	"alibi/pred"
	"alibi/varint"
)

// payload reads parts from a frame's payload. What it tells when it is no longer good counts for nothing.
type payload struct {
	*varint.Reader
	bad bool // it had bytes that are numbers, but no part's
}

// good tells whether all that was read is a record's.
func (b *payload) good() bool { return !b.bad && b.Err() == api.OK }

// version reads a version.
func (b *payload) version() Version { return Version{W: b.Number(), N: b.Number()} }

// predicate reads a predicate, with how many bytes it has ahead.
func (b *payload) predicate() pred.Expr {
	p, e := pred.Parse(b.Text())
	if e != api.OK {
		b.bad = true
	}
	return p
}

// entries reads entries, with how many they are ahead; that may be far more than there are.
func (b *payload) entries() []Entry {
	var l []Entry
	for n := b.Number(); n > 0 && b.good(); n-- {
		l = append(l, Entry{X: b.Number(), V: b.version(), M: b.match()})
	}
	return l
}

// match reads whether an entry matches.
func (b *payload) match() bool {
	one := b.Raw(1)
	if len(one) == 0 || one[0] > 1 {
		b.bad = true
		return false
	}
	return one[0] == 1
}

// putEntries writes entries, with how many they are ahead.
func putEntries(w *varint.Writer, l ...Entry) {
	w.Number(uint64(len(l)))
	for _, e := range l {
		w.Number(e.X, e.V.W, e.V.N)
		w.Raw(digit(e.M))
	}
}

// digit is how it stands whether an entry matches.
func digit(m bool) byte {
	if m {
		return 1
	}
	return 0
}
