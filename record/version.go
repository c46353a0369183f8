package record

import "cmp"

// Unborn tells whether a version is.
func (v Version) Unborn() bool { return v == Version{} }

// Text is a version's.
func (v Version) Text() string { return joined(".", decimal(v.W), decimal(v.N)) }

// Cmp orders versions.
func Cmp(a, b Version) int { return cmp.Or(cmp.Compare(a.W, b.W), cmp.Compare(a.N, b.N)) }
