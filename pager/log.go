package pager

import (
	"bytes"
	"maps"
	"slices"

	"buttery/api"
	"buttery/code"
	"buttery/ring"
)

// high is a number of the ring from which on its numbers begin anew: more than any disk
// comes to by itself, but what lies on a disk that is formatted may be anything.
const high = ring.MaxNumber / 2

// record is the change, as the log has it: how all stands behind it, and the bytes of each
// page, without the noughts at their end.
func (p *Pager) record() []byte {
	rec := append(p.now.bytes(), code.Count(nil, len(p.changed))...)
	for _, n := range slices.Sorted(maps.Keys(p.changed)) {
		b := bytes.TrimRight(p.changed[n].now[:], "\x00")
		// Each page by itself: what code is handed it copies, and a record may be long.
		rec = append(rec, code.Str(code.Count(nil, n), string(b))...)
	}
	return rec
}

// replay lets the pager stand as the log's records say, one after the other; it tells
// whether all of them were such.
func (p *Pager) replay(records [][]byte) bool {
	done := 0
log:
	for _, rec := range records {
		r := code.NewReader(rec)
		s := readState(r, p.pages)
		for range r.Count(s.mark - 1) {
			n, b := r.Count(s.mark-1), r.Str(api.SectorSize)
			if n == 0 { // that page is in no change; or the bytes are at their end
				break log
			}
			p.logged[n] = pageOf([]byte(b))
		}
		if !r.Done() {
			break log
		}
		p.kept = s
		done++
	}
	return done == len(records)
}

// log lets a record last. If there is no room for it, all that the ring has is laid into
// its places first.
func (p *Pager) log(rec []byte) api.Errno {
	if ring.Pieces(len(rec)) > p.ring.Room() {
		if err := p.settle(); err != api.OK {
			return err
		}
	}
	if err := p.ring.Append(rec); err != api.OK {
		return err
	}
	return p.ring.Sync()
}

// stuck says whether the ring can't go on as it is: a part of a commit that was cut off
// stands in the way, or there are hardly numbers left.
func (p *Pager) stuck() bool {
	return p.ring.Top() > p.ring.Last() || p.ring.Top() >= high
}

// settle lays what the log has into its places. It lasts there before the ring forgets it:
// till then, wherever that is cut off, the log says it all once more.
func (p *Pager) settle() api.Errno {
	for _, n := range slices.Sorted(maps.Keys(p.logged)) {
		if err := p.disk.Write(p.place(n), p.logged[n][:]); err != api.OK {
			return err
		}
	}
	if err := p.disk.Flush(); err != api.OK {
		return err
	}
	if err := p.forget(); err != api.OK {
		return err
	}
	p.logged = map[int]*page{}
	return api.OK
}

// forget lets the ring have nothing, and the head say so, and how all stands.
func (p *Pager) forget() api.Errno {
	err := p.say(p.ring.Empty())
	if err == api.OK && p.ring.Base() >= high {
		err = p.wipe()
	}
	return err
}

// wipe lets the ring's numbers begin anew. The head says by then that the ring has nothing,
// so that nothing is lost where that is cut off.
func (p *Pager) wipe() api.Errno {
	none := pageOf(nil)
	for i := range ringOf(p.disk.Len()) {
		if err := p.disk.Write(ringAt+i, none[:]); err != api.OK {
			return err
		}
	}
	if err := p.disk.Flush(); err != api.OK {
		return err
	}
	r, _, err := ring.Open(p.disk, ringAt, ringOf(p.disk.Len()), 0)
	if err != api.OK {
		return err
	}
	p.ring = r
	return p.say(0)
}

// say lets the head say how all stood at the last commit, and the ring's base.
func (p *Pager) say(base int) api.Errno {
	s := head{sectors: p.disk.Len(), base: base, state: p.kept}.page()
	if err := p.disk.Write(headAt, s[:]); err != api.OK {
		return err
	}
	return p.disk.Flush()
}
