package pager_test

import (
	"testing"

	"buttery/api"
	"buttery/disk"
	"buttery/pager"
)

// The chapter's first example: a page is taken, written and made the root.
func exampleOne(t *testing.T) (*disk.Disk, *pager.Pager, int) {
	t.Helper()
	d := mustDisk(t, 400)
	p := mustFormat(t, d)
	mustStand(t, "Format", p, stands{299, 298, 0})
	a := mustAlloc(t, p)
	must(t, "Write(a, 1s)", p.Write(a, full('1')), api.OK)
	must(t, "SetRoot(a)", p.SetRoot(a), api.OK)
	must(t, "Commit", p.Commit(), api.OK)
	q := mustOpen(t, d)
	mustStand(t, "Open", q, stands{299, 297, a})
	mustRead(t, "Open", q, a, full('1'))
	return d, p, a
}

func TestExampleOfOpen(t *testing.T) { exampleOne(t) }

// The chapter's second example: a change is dropped, and the root.
func TestExampleOfAbort(t *testing.T) {
	_, p, a := exampleOne(t)
	must(t, "Write(a, 2s)", p.Write(a, full('2')), api.OK)
	must(t, "Abort", p.Abort(), api.OK)
	mustRead(t, "Abort", p, a, full('1'))
	must(t, "Drop(a)", p.Drop(a), api.OK)
	must(t, "Commit", p.Commit(), api.ErrArg)
	must(t, "SetRoot(0)", p.SetRoot(0), api.OK)
	must(t, "Commit", p.Commit(), api.OK)
	mustNotRead(t, "Commit", p, a, api.ErrArg)
}

// The chapter's third example: what is refused.
func TestExampleOfRefusals(t *testing.T) {
	_, p, a := exampleOne(t)
	mustNotRead(t, "the page 0", p, 0, api.ErrArg)
	must(t, "Write", p.Write(a+1, full('1')), api.ErrArg)
	must(t, "SetRoot", p.SetRoot(a+1), api.ErrArg)
	mustNotFormat(t, "63 sectors", mustDisk(t, 63), api.ErrArg)
	mustNotOpen(t, "a new disk", mustDisk(t, 400), api.ErrForm)
	for range 51 {
		mustAlloc(t, p)
	}
	must(t, "Commit", p.Commit(), api.ErrFull)
}

// The example of README.md.
func TestExampleOfReadme(t *testing.T) {
	b := full('b')
	d, _ := disk.New(400)
	p, _ := pager.Format(d)
	n, _ := p.Alloc()
	p.Write(n, b)
	p.SetRoot(n)
	must(t, "Commit", p.Commit(), api.OK)
	p.Drop(n)
	d.Crash(nil)
	d, _ = d.Reopen()
	p, _ = pager.Open(d)
	mustStand(t, "behind the crash", p, stands{299, 297, n})
	mustRead(t, "behind the crash", p, p.Root(), b)
}
