package disk

// fuse says how many Writes and Flushes are left till the disk crashes, and what it keeps
// then. The zero fuse is none: one that has nothing left and keeps nothing is another one.
type fuse struct {
	set  bool
	left int
	keep marks
}

// burn takes one from what is left; it tells whether nothing was.
func (f *fuse) burn() bool {
	if *f == (fuse{}) {
		return false
	}
	if f.left == 0 {
		return true
	}
	f.left--
	return false
}

// marks are truth values, one a byte: a text and no list, so that fuses can be compared.
type marks string

// mark makes marks.
func mark(l []bool) marks {
	b := make([]byte, len(l))
	for i, v := range l {
		if v {
			b[i] = 1
		}
	}
	return marks(b)
}

// has says whether there is a true at a place.
func (m marks) has(i int) bool {
	return i < len(m) && m[i] == 1
}
