// Package formulas visits the parts of formulas. Other packages use it.
package formulas

import "petrinet/api"

// Deepest is the greatest number of levels about which the document promises anything: a formula that contains itself has more.
const Deepest = 1 << 16

// Copy returns a copy that shares no memory with the formula, and true; an empty formula and false if it has more levels than given.
func Copy(f api.Formula, levels int) (api.Formula, bool) {
	if levels == 0 {
		return api.Formula{}, false
	}
	kids := make([]api.Formula, len(f.Kids))
	for i, kid := range f.Kids {
		var ok bool
		if kids[i], ok = Copy(kid, levels-1); !ok {
			return api.Formula{}, false
		}
	}
	f.Kids = kids
	return f, true
}

// Check returns the error of the first part that has one, where each part comes before its kids: ErrDepth if it is nested more than MaxDepth levels deep, or else what checkPart returns for it.
func Check(f api.Formula, checkPart func(part api.Formula) api.Errno) api.Errno {
	var visit func(part api.Formula, level int) api.Errno
	visit = func(part api.Formula, level int) api.Errno {
		if level > api.MaxDepth {
			return api.ErrDepth
		}
		if e := checkPart(part); e != api.OK {
			return e
		}
		for _, kid := range part.Kids {
			if e := visit(kid, level+1); e != api.OK {
				return e
			}
		}
		return api.OK
	}
	return visit(f, 1)
}
