package pager

import (
	"buttery/api"
	"buttery/code"
)

// The free pages are those from the mark on, which never were in use, and a list of others:
// a page's link is the next one in that list (0: it is the last one), and a free page's
// bytes say its link. So it takes no page that is in use to tell which ones are free, and
// that changes with the pages themselves, at one stroke.

// taken is in the place of a link where a page is in no list.
const taken = -1

// inUse says whether a page is in use.
func (p *Pager) inUse(n int) bool {
	return n > 0 && n < p.now.mark && p.link(n) == taken
}

// link is a page's link.
func (p *Pager) link(n int) int {
	if to, ok := p.links[n]; ok {
		return to
	}
	return taken
}

// setLink lets a page have another link.
func (p *Pager) setLink(n, to int) {
	if to == taken {
		delete(p.links, n)
		return
	}
	p.links[n] = to
}

// pop takes the first page out of the list, or the one at the mark, if the list is empty.
func (p *Pager) pop() int {
	p.now.free--
	n := p.now.top
	if n > 0 {
		p.now.top = p.links[n]
		return n
	}
	n = p.now.mark
	p.now.mark++
	return n
}

// push puts a page into the list, ahead of the others.
func (p *Pager) push(n int) {
	p.now.top = n
	p.now.free++
}

// findFree finds which pages were free at the last commit, and lets all stand as it was
// then. A list that leads to a page that says no link, or back to where it was, is none.
func (p *Pager) findFree() api.Errno {
	p.now = p.kept
	p.now.free = p.pages - p.now.mark
	for n := p.now.top; n != 0; n = p.links[n] {
		if !p.inUse(n) {
			return api.ErrForm
		}
		g, err := p.load(n)
		if err != api.OK {
			return err
		}
		to, ok := linkIn(g)
		if !ok {
			return api.ErrForm
		}
		p.links[n] = to
		p.now.free++
	}
	if !p.mayBeRoot(p.now.root) {
		return api.ErrForm
	}
	p.kept = p.now
	return api.OK
}

// linkTo is what a free page says whose link is n.
func linkTo(n int) *page { return pageOf(code.Count(nil, n)) }

// linkIn is the link that a page's bytes say, if they say one.
func linkIn(g *page) (int, bool) {
	r := code.NewReader(g[:])
	n := r.Count(api.MaxSectors)
	return n, r.OK() && *g == *linkTo(n)
}
