package pager

import (
	"buttery/api"
	"buttery/code"
	"buttery/ring"
	"buttery/seal"
)

// Where on a disk stands what; the pages stand behind the ring.
const (
	headAt = 0
	ringAt = 1
)

// ringOf is how many sectors the ring has of so many.
func ringOf(sectors int) int { return sectors / 4 }

// pagesOf is how many are pages of so many.
func pagesOf(sectors int) int { return sectors - ringAt - ringOf(sectors) }

// The head is one frame, so that its sum tells all changes of it.
const (
	frameKind = 'P'
	frameRoom = api.SectorSize - 7 // a frame has seven bytes beside its body
)

// state is how the pages stand, but for their bytes.
type state struct {
	mark int // the pages from here on never were in use
	root int
	top  int // the first one of the list of free pages
	free int // how many are free; found by the list, so that it is not written
}

// bytes are the state's bytes.
func (s state) bytes() []byte {
	return code.Count(code.Count(code.Count(nil, s.mark), s.root), s.top)
}

// readState reads a state of so many pages.
func readState(r *code.Reader, pages int) state {
	mark := r.Count(pages)
	root := r.Count(mark - 1)
	top := r.Count(mark - 1)
	return state{mark: mark, root: root, top: top}
}

// head is what the head says: how many sectors the disk has, how all stood when it was
// written, and the base behind which the ring has what came then.
type head struct {
	sectors, base int
	state
}

// page are the bytes of the head's sector.
func (h head) page() *page {
	body := make([]byte, frameRoom)
	b := code.Num(code.Count(nil, h.sectors), int64(h.base))
	copy(body, append(b, h.bytes()...))
	frame, _ := seal.Seal(frameKind, body)
	return pageOf(frame)
}

// headIn is the head that a sector's bytes are, if they are one. That nothing else stands
// in them is asked by making the sector once more: it must be the same.
func headIn(b []byte) (head, bool) {
	_, body, err := seal.Open(b)
	if err != api.OK {
		return head{}, false
	}
	r := code.NewReader(body)
	h := head{sectors: r.Count(api.MaxSectors), base: int(r.Num())}
	h.state = readState(r, pagesOf(h.sectors))
	may := r.OK() && h.sectors >= least && h.base >= 0 && h.base <= ring.MaxNumber
	if !may || *h.page() != *pageOf(b) {
		return head{}, false
	}
	return h, true
}
