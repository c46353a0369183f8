package pred

import (
	"strconv"
	"strings"

	"alibi/api"
)

// Text is a predicate's text.
func Text(p Expr) string {
	if !Right(p) {
		return ""
	}
	return tell(p)
}

// Read is the predicate whose text s is.
func Read(s string) (Expr, api.Errno) {
	r := reader{left: s}
	p := r.node(1)
	if r.bad || r.left != "" || !Right(p) {
		return Expr{}, api.ErrPred
	}
	return p, api.OK
}

// tell is Text of one that is known to be right.
func tell(p Expr) string {
	k, _ := kindOf(p.Kind)
	var numbers, parts []string
	for _, n := range k.numbers(&p) {
		numbers = append(numbers, strconv.FormatUint(*n, 10))
	}
	for _, q := range p.Parts {
		parts = append(parts, tell(q))
	}
	s := k.word + strings.Join(numbers, "=")
	if k.parts == many {
		return s + "(" + strings.Join(parts, ",") + ")"
	}
	return s + strings.Join(parts, "")
}

// reader reads nodes from a text. What it tells when it has become bad counts for nothing.
type reader struct {
	room
	left string
	bad  bool
}

// node reads a node, so many levels deep, with its parts.
func (r *reader) node(deep int) Expr {
	p := Expr{Kind: r.kind()}
	k, ok := kindOf(p.Kind)
	if !ok || !r.enter(deep) {
		r.bad = true
		return Expr{}
	}
	for i, n := range k.numbers(&p) {
		if i > 0 {
			r.must("=")
		}
		*n = r.number()
	}
	switch k.parts {
	case one:
		p.Parts = []Expr{r.node(deep + 1)}
	case many:
		p.Parts = r.list(deep + 1)
	}
	return p
}

// kind reads a kind's word; 0, which is no kind, where there is none.
func (r *reader) kind() int {
	for n, k := range kinds() {
		if k.word != "" && r.mark(k.word) {
			return n
		}
	}
	return 0
}

// list reads parts, so many levels deep, and the marks about them.
func (r *reader) list(deep int) []Expr {
	r.must("(")
	if r.mark(")") {
		return nil
	}
	l := []Expr{r.node(deep)}
	for !r.bad && r.mark(",") {
		l = append(l, r.node(deep))
	}
	r.must(")")
	return l
}

// number reads a number.
func (r *reader) number() uint64 {
	rest := strings.TrimLeft(r.left, "0123456789")
	digits := r.left[:len(r.left)-len(rest)]
	v, err := strconv.ParseUint(digits, 10, 64)
	if err != nil || strconv.FormatUint(v, 10) != digits { // it may have noughts ahead
		r.bad = true
		return 0
	}
	r.left = rest
	return v
}

// mark reads s, if it comes next, and tells whether it did.
func (r *reader) mark(s string) bool {
	rest, ok := strings.CutPrefix(r.left, s)
	r.left = rest
	return ok
}

// must reads s, which has to come next.
func (r *reader) must(s string) {
	if !r.mark(s) {
		r.bad = true
	}
}
