package fault

import "errors"

// most is how many errors from elsewhere may be one within another. Beyond that they count as endless: nothing else tells an error that makes what it wraps anew whenever it is asked.
const most = 1 << 20

// ends reports whether a walk through what e wraps comes to an end: errors.Is and errors.As would never come back from one that does not. Above e there are deep errors from elsewhere; toFault says that the walk goes no further than to a fault, as that of errors.As.
func ends(e error, deep int, toFault bool) bool {
	// Faults are held against one of those passed, which moves on ever more seldom (Brent), so that no chain is too long.
	var mark *Fault
	steps, turn := 0, 1
	for e != nil && deep < most {
		f, ok := e.(*Fault)
		if !ok {
			deep++
			if x, ok := e.(interface{ Unwrap() []error }); ok {
				return allEnd(x.Unwrap(), deep, toFault)
			}
			e = errors.Unwrap(e)
			continue
		}
		if f == nil || toFault {
			return true
		}
		if f == mark {
			return false
		}
		if steps++; steps == turn {
			mark, steps, turn = f, 0, 2*turn
		}
		e = f.Err
	}
	return e == nil
}

// allEnd reports whether the walk comes to an end in each of the parts.
func allEnd(parts []error, deep int, toFault bool) bool {
	for _, e := range parts {
		if !ends(e, deep, toFault) {
			return false
		}
	}
	return true
}
