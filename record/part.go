package record

import (
	"alibi/pred"
	"alibi/varint"
)

// part tells of one of a record's parts which kinds name it, how it stands, and how it is told.
type part struct {
	of    func(kind int) bool              // does that kind name it?
	empty func(r Record) bool              // is it 0, or empty?
	put   func(r Record, w *varint.Writer) // writes it
	take  func(r *Record, b *payload)      // takes it from a payload
	tell  func(r Record) []string          // its words
	read  func(r *Record, w *words)        // reads it from a text
}

// parts are all parts, in the order in which they stand, and are told.
func parts() [6]part {
	return [6]part{partT(), partX(), partV(), partValue(), partP(), partEntries()}
}

// partsOf are those that a kind names.
func partsOf(kind int) []part {
	var l []part
	for _, p := range parts() {
		if p.of(kind) {
			l = append(l, p)
		}
	}
	return l
}

// names are the words that texts begin with, each at its kind.
func names() [Abort + 1]string {
	return [Abort + 1]string{
		Begin: "begin", Read: "read", Write: "write", Delete: "delete", Pred: "pred", Commit: "commit", Abort: "abort",
	}
}

// known tells whether a number is a kind's.
func known(kind int) bool { return kind >= Begin && kind <= Abort }

// kindOf is the kind of that name; 0, which is no kind, if there is none.
func kindOf(name string) int {
	for kind, s := range names() {
		if s == name {
			return kind
		}
	}
	return 0
}

func partT() part {
	return part{
		of:    func(kind int) bool { return true },
		empty: func(r Record) bool { return r.T == 0 },
		put:   func(r Record, w *varint.Writer) { w.Number(r.T) },
		take:  func(r *Record, b *payload) { r.T = b.Number() },
		tell:  func(r Record) []string { return []string{decimal(r.T)} },
		read:  func(r *Record, w *words) { r.T = w.number(w.next()) },
	}
}

func partX() part {
	return part{
		of:    func(kind int) bool { return kind == Read || kind == Write || kind == Delete },
		empty: func(r Record) bool { return r.X == 0 },
		put:   func(r Record, w *varint.Writer) { w.Number(r.X) },
		take:  func(r *Record, b *payload) { r.X = b.Number() },
		tell:  func(r Record) []string { return []string{decimal(r.X)} },
		read:  func(r *Record, w *words) { r.X = w.number(w.next()) },
	}
}

func partV() part {
	return part{
		of:    func(kind int) bool { return kind == Read },
		empty: func(r Record) bool { return r.V.Unborn() },
		put:   func(r Record, w *varint.Writer) { w.Number(r.V.W, r.V.N) },
		take:  func(r *Record, b *payload) { r.V = b.version() },
		tell:  func(r Record) []string { return []string{r.V.Text()} },
		read:  func(r *Record, w *words) { r.V = w.version(w.next()) },
	}
}

func partValue() part {
	return part{
		of:    func(kind int) bool { return kind == Write },
		empty: func(r Record) bool { return r.Value == 0 },
		put:   func(r Record, w *varint.Writer) { w.Number(r.Value) },
		take:  func(r *Record, b *payload) { r.Value = b.Number() },
		tell:  func(r Record) []string { return []string{decimal(r.Value)} },
		read:  func(r *Record, w *words) { r.Value = w.number(w.next()) },
	}
}

func partP() part {
	return part{
		of:    func(kind int) bool { return kind == Pred },
		empty: func(r Record) bool { return pred.Same(r.P, pred.Expr{}) },
		put:   func(r Record, w *varint.Writer) { w.Text(pred.Put(r.P)) },
		take:  func(r *Record, b *payload) { r.P = b.predicate() },
		tell:  func(r Record) []string { return []string{pred.Text(r.P)} },
		read:  func(r *Record, w *words) { r.P = w.predicate(w.next()) },
	}
}

func partEntries() part {
	return part{
		of:    func(kind int) bool { return kind == Pred },
		empty: func(r Record) bool { return len(r.Entries) == 0 },
		put:   func(r Record, w *varint.Writer) { putEntries(w, r.Entries...) },
		take:  func(r *Record, b *payload) { r.Entries = b.entries() },
		tell:  func(r Record) []string { return tellEntries(r.Entries...) },
		read:  func(r *Record, w *words) { r.Entries = w.entries() },
	}
}
