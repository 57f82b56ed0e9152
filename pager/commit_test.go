package pager_test

import (
	"bytes"
	"fmt"
	"testing"

	"buttery/api"
	"buttery/disk"
	"buttery/pager"
	"buttery/ring"
)

// grown is a pager with as many pages in use as are asked for, settled.
func grown(t *testing.T, sectors, pages int) (*disk.Disk, *pager.Pager, []int) {
	t.Helper()
	d := mustDisk(t, sectors)
	p := mustFormat(t, d)
	var l []int
	for range pages {
		if len(l)%(sectors/8) == 0 {
			must(t, "Commit", p.Commit(), api.OK)
		}
		l = append(l, mustTake(t, p, text(len(l))))
	}
	must(t, "Commit", p.Commit(), api.OK)
	must(t, "Settle", p.Settle(), api.OK)
	return d, p, l
}

// mustFit asks that a change of just as many pages as fit is committed, and one of one more
// refused; and that this one stays as it is, till it is dropped.
func mustFit(t *testing.T, what string, sectors int, change func(p *pager.Pager, l []int, i int) int) {
	t.Helper()
	most := sectors / 8
	for _, over := range []int{0, 1} {
		d, p, l := grown(t, sectors, 2*most+2)
		written := map[int]int{}
		for i := range most + over {
			written[change(p, l, i)] = i
		}
		was := stands{p.Pages(), p.Free(), p.Root()}
		ask := func(p *pager.Pager) {
			t.Helper()
			mustStand(t, what, p, was)
			for n, i := range written {
				if n > 0 {
					mustRead(t, what, p, n, text(1000+i))
				}
			}
		}
		if over == 0 {
			must(t, fmt.Sprint(what, ": Commit of ", most), p.Commit(), api.OK)
			ask(p)
			ask(mustOpen(t, d))
			continue
		}
		done := d.Done()
		for range 2 {
			must(t, fmt.Sprint(what, ": Commit of ", most, " and 1"), p.Commit(), api.ErrFull)
			ask(p)
		}
		if d.Done() != done {
			t.Fatalf("%s: a Commit that was refused wrote", what)
		}
		must(t, "Settle", p.Settle(), api.OK)
		ask(p)
		must(t, what+": Commit behind Settle", p.Commit(), api.ErrFull)
		must(t, "Abort", p.Abort(), api.OK)
		must(t, "Commit of none", p.Commit(), api.OK)
		mustStand(t, what+": Abort", p, stands{was.pages, was.pages - 1 - len(l), 0})
	}
}

// P5.3: a change of just n / 8 pages fits, of whatever bytes; one of one more does not.
func TestWhatFits(t *testing.T) {
	for _, sectors := range []int{64, 65, 71, 72, 79, 80, 400} {
		mustFit(t, "written", sectors, func(p *pager.Pager, l []int, i int) int {
			must(t, "Write", p.Write(l[i], text(1000+i)), api.OK)
			return l[i]
		})
		mustFit(t, "taken, written", sectors, func(p *pager.Pager, l []int, i int) int {
			return mustTake(t, p, text(1000+i))
		})
		mustFit(t, "taken", sectors, func(p *pager.Pager, l []int, i int) int {
			mustAlloc(t, p)
			return 0
		})
		mustFit(t, "dropped", sectors, func(p *pager.Pager, l []int, i int) int {
			must(t, "Drop", p.Drop(l[i]), api.OK)
			return 0
		})
		mustFit(t, "each in turn", sectors, func(p *pager.Pager, l []int, i int) int {
			switch i % 3 {
			case 0:
				must(t, "Write", p.Write(l[i], text(1000+i)), api.OK)
				return l[i]
			case 1:
				must(t, "Drop", p.Drop(l[i]), api.OK)
				return 0
			}
			n := mustAlloc(t, p)
			if n == l[i-1] { // what was dropped is taken again: one page, not two
				must(t, "Write", p.Write(l[len(l)-1-i], text(1000+i)), api.OK)
				return l[len(l)-1-i]
			}
			must(t, "Write", p.Write(n, text(1000+i)), api.OK)
			return n
		})
	}
}

// P5.3: the greatest change of the greatest disk.
func TestGreatestChange(t *testing.T) {
	const most = api.MaxSectors / 8
	d := mustDisk(t, api.MaxSectors)
	p := mustFormat(t, d)
	written := map[int]int{}
	for range 3 {
		for range most {
			i := len(written)
			written[mustTake(t, p, text(i))] = i
		}
		must(t, "Commit", p.Commit(), api.OK)
	}
	p = mustOpen(t, d)
	mustStand(t, "Open", p, stands{49151, 49150 - 3*most, 0})
	dropped := 0
	for n, i := range written {
		mustRead(t, "Open", p, n, text(i))
		if dropped < most {
			must(t, "Drop", p.Drop(n), api.OK)
			dropped++
		}
	}
	must(t, "Commit", p.Commit(), api.OK)
	mustStand(t, "Open", mustOpen(t, d), stands{49151, 49150 - 2*most, 0})
	for range most + 1 {
		mustAlloc(t, p)
	}
	must(t, "Commit of one too much", p.Commit(), api.ErrFull)
}

// P5.3: a page that was taken, written and dropped in one change, however often, is one.
func TestPagesCountedOnce(t *testing.T) {
	const most = 8
	d, p, l := grown(t, 64, most+1)
	for round := range 20 {
		for i, n := range l[:most] {
			must(t, "Write", p.Write(n, text(100*round+i)), api.OK)
		}
	}
	must(t, "Commit of 8 written often", p.Commit(), api.OK)
	for _, n := range l[:most] {
		must(t, "Write", p.Write(n, text(1)), api.OK)
		must(t, "Drop", p.Drop(n), api.OK)
	}
	must(t, "Commit of 8 written and dropped", p.Commit(), api.OK)
	take := func(size int) {
		var taken []int
		for i := range size {
			taken = append(taken, mustTake(t, p, text(i)))
			must(t, "Write", p.Write(taken[i], text(i+1)), api.OK)
		}
		for i := 0; i < size; i += 2 {
			must(t, "Drop", p.Drop(taken[i]), api.OK)
		}
	}
	take(most)
	must(t, "Commit of 8 taken and written, some dropped", p.Commit(), api.OK)
	take(most + 1)
	must(t, "Commit of 9 taken and written, some dropped", p.Commit(), api.ErrFull)
	must(t, "Abort", p.Abort(), api.OK)
	mustStand(t, "Open", mustOpen(t, d), stands{47, 46 - 1 - most/2, 0})
	mustRead(t, "Open", mustOpen(t, d), l[most], text(most))
}

// P5.3: a root that is not in use any more; that a change is too great is named first.
func TestRootThatIsGone(t *testing.T) {
	d, p, l := grown(t, 64, 10)
	must(t, "SetRoot", p.SetRoot(l[0]), api.OK)
	must(t, "Commit", p.Commit(), api.OK)
	must(t, "Drop", p.Drop(l[0]), api.OK)
	done := d.Done()
	for range 2 {
		must(t, "Commit", p.Commit(), api.ErrArg)
		mustStand(t, "Commit that is refused", p, stands{47, 37, l[0]})
	}
	for _, n := range l[1:8] {
		must(t, "Write", p.Write(n, text(n)), api.OK)
	}
	must(t, "Commit of 8, such a root", p.Commit(), api.ErrArg)
	must(t, "Write", p.Write(l[8], text(8)), api.OK)
	must(t, "Commit of 9, such a root", p.Commit(), api.ErrFull)
	if d.Done() != done {
		t.Error("Commits that were refused wrote")
	}
	mustStand(t, "Open", mustOpen(t, d), stands{47, 36, l[0]})
	must(t, "Abort", p.Abort(), api.OK)
	mustStand(t, "Abort", p, stands{47, 36, l[0]})
	must(t, "Drop", p.Drop(l[0]), api.OK)
	must(t, "SetRoot", p.SetRoot(l[1]), api.OK)
	must(t, "Commit", p.Commit(), api.OK)
	mustStand(t, "Open", mustOpen(t, d), stands{47, 37, l[1]})
}

// P5.3: a root that was dropped and taken again may be committed.
func TestRootThatIsBack(t *testing.T) {
	const sectors = 400 // so that a change may take all of some few pages
	d, p, l := grown(t, sectors, 1)
	must(t, "SetRoot", p.SetRoot(l[0]), api.OK)
	must(t, "Commit", p.Commit(), api.OK)
	free := p.Free()
	must(t, "Drop", p.Drop(l[0]), api.OK)
	must(t, "Commit of a root that is gone", p.Commit(), api.ErrArg)
	taken := 0
	for n := 0; n != l[0]; taken++ {
		n = mustAlloc(t, p)
	}
	if taken > sectors/8 {
		t.Skipf("%d pages were taken ahead of the root", taken)
	}
	must(t, "Commit", p.Commit(), api.OK)
	mustStand(t, "Open", mustOpen(t, d), stands{299, free + 1 - taken, l[0]})
}

// P5.3: Commit, Abort and Settle behind changes of each kind, and of none.
func TestBehindEachChange(t *testing.T) {
	changes := [][]int{
		{}, {anAlloc}, {anAlloc, aWrite}, {aWrite}, {aDrop}, {aRoot}, {aRoot, aDrop},
		{anAlloc, aDrop}, {aDrop, anAlloc}, {anAlloc, aRoot, aWrite}, {aWrite, aDrop, aDrop, anAlloc},
	}
	for _, ahead := range changes {
		for _, behind := range changes {
			for _, ends := range [][]int{
				{aCommit}, {anAbort}, {aSettle}, {aSettle, anAbort}, {aSettle, aCommit},
				{anAbort, aSettle}, {aCommit, aSettle}, {aCommit, anAbort}, {anAbort, aCommit},
				{aSettle, aSettle, aCommit, aCommit, anAbort, anAbort}, {aSettle, anOpen},
			} {
				p := begin(t, 64)
				for _, kind := range []int{anAlloc, aWrite, anAlloc, aWrite, aRoot, aCommit} {
					p.doKind(t, kind)
				}
				for _, kind := range append(append(append([]int{}, ahead...), aCommit), behind...) {
					p.doKind(t, kind)
				}
				for _, kind := range ends {
					p.doKind(t, kind)
				}
				p.do(t, call{kind: anOpen})
			}
		}
	}
}

// P5.3: Settle lays what was committed, and only that, into its places, and the ring is
// empty then; what is not committed stays, and is told.
func TestSettle(t *testing.T) {
	d := mustDisk(t, 64)
	p := mustFormat(t, d)
	a, b := mustTake(t, p, text(1)), mustTake(t, p, text(2))
	must(t, "SetRoot", p.SetRoot(b), api.OK)
	must(t, "Commit", p.Commit(), api.OK)
	must(t, "Write", p.Write(a, text(3)), api.OK)
	must(t, "Drop", p.Drop(b), api.OK)
	must(t, "SetRoot", p.SetRoot(a), api.OK)
	c := mustTake(t, p, text(4))
	must(t, "Settle", p.Settle(), api.OK)
	mustRead(t, "Settle", p, a, text(3))
	mustRead(t, "Settle", p, c, text(4))
	mustStand(t, "Settle", p, stands{47, 44, a})
	for n, want := range map[int][]byte{a: text(1), b: text(2)} {
		if got := mustGet(t, d, 17+n); !bytes.Equal(got, want) {
			t.Errorf("the place of the page %d: % X .., want % X ..", n, got[:3], want[:3])
		}
	}
	if d.Waits() != 0 {
		t.Errorf("Settle: %d writes wait", d.Waits())
	}
	// Without the ring's sectors all is there, so that there was nothing in them.
	e := d.Copy()
	for i := range 16 {
		mustPut(t, e, 1+i, full(0))
	}
	for _, d := range []*disk.Disk{d, e} {
		q := mustOpen(t, d)
		mustStand(t, "Open", q, stands{47, 44, b})
		mustRead(t, "Open", q, a, text(1))
		mustRead(t, "Open", q, b, text(2))
	}
	must(t, "Commit", p.Commit(), api.OK)
	q := mustOpen(t, d)
	mustStand(t, "Commit", q, stands{47, p.Free(), a})
	mustRead(t, "Commit", q, a, text(3))
}

// P5.3: Settle of what is settled writes nothing, and no page twice; Commit and Settle last
// at once.
func TestNothingWaits(t *testing.T) {
	d, p, l := grown(t, 64, 5)
	done := d.Done()
	must(t, "Settle", p.Settle(), api.OK)
	must(t, "Commit", p.Commit(), api.OK)
	must(t, "Abort", p.Abort(), api.OK)
	if d.Done() != done {
		t.Error("where nothing was to be done something was written")
	}
	must(t, "Write", p.Write(l[0], text(9)), api.OK)
	must(t, "Commit", p.Commit(), api.OK)
	done = d.Done()
	must(t, "Settle", p.Settle(), api.OK)
	if d.Done() != done+4 {
		t.Errorf("Settle of one page: %d writes and flushes, want 4", d.Done()-done)
	}
	for i := range 10 {
		must(t, "Write", p.Write(l[i%5], text(i)), api.OK)
		must(t, "Commit", p.Commit(), api.OK)
		if d.Waits() != 0 {
			t.Fatalf("Commit: %d writes wait", d.Waits())
		}
		if i%3 == 0 {
			must(t, "Settle", p.Settle(), api.OK)
		}
		if d.Waits() != 0 {
			t.Fatalf("Settle: %d writes wait", d.Waits())
		}
	}
}

// P5.3: many commits, far more than the ring has room for, of all sizes that fit.
func TestManyCommits(t *testing.T) {
	for _, sectors := range []int{64, 75, 104} {
		for size := 1; size <= sectors/8; size++ {
			d, p, l := grown(t, sectors, sectors/8)
			laid := 0
			for round := 0; laid < 6*sectors; round++ {
				for i := range size {
					must(t, "Write", p.Write(l[i], text(round+i)), api.OK)
				}
				must(t, "Commit", p.Commit(), api.OK)
				laid += ring.Pieces(size * api.SectorSize)
				q := mustOpen(t, d)
				for i := range size {
					mustRead(t, "Open", q, l[i], text(round+i))
				}
				if round%7 == 0 {
					p = q
				}
			}
		}
	}
}

// P5.3: commits of roots alone, far more than the ring has room for.
func TestManyRoots(t *testing.T) {
	d, p, l := grown(t, 64, 3)
	for i := range 100 {
		must(t, "SetRoot", p.SetRoot(l[i%3]), api.OK)
		must(t, "Commit", p.Commit(), api.OK)
		mustStand(t, "Open", mustOpen(t, d), stands{47, 43, l[i%3]})
	}
}
