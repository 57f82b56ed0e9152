package rlog_test

import (
	"encoding/binary"
	"encoding/hex"
	"fmt"
	"math"
	"slices"
	"strings"
	"testing"

	"buttery/api"
	"buttery/rlog"
)

// The chapter's numbers, written out.
const (
	maxCount  = 2147483647
	maxEntry  = 256
	maxStores = 5
)

// noop, change and members are entries of each Kind.
func noop(term int) api.Entry                 { return api.Entry{Term: term, Kind: 1} }
func change(term int, data string) api.Entry  { return api.Entry{Term: term, Kind: 2, Data: data} }
func members(term int, list ...int) api.Entry { return api.Entry{Term: term, Kind: 3, List: list} }

// noops are Noops of these terms.
func noops(terms ...int) []api.Entry {
	var l []api.Entry
	for _, term := range terms {
		l = append(l, noop(term))
	}
	return l
}

// marked are entries of these terms, no two of which are alike: they have their place and a mark
// as Data, and some are Members.
func marked(mark string, terms ...int) []api.Entry {
	var l []api.Entry
	for i, term := range terms {
		e := change(term, fmt.Sprint(mark, i))
		if i%3 == 1 {
			e = members(term, voters((len(mark)*7+i)%31)...)
		}
		l = append(l, e)
	}
	return l
}

// voters are one of the 31 lists that an entry may have.
func voters(n int) []int {
	var l []int
	for store := 1; store <= maxStores; store++ {
		if (n+1)>>(store-1)&1 == 1 {
			l = append(l, store)
		}
	}
	return l
}

// past is the number behind maxCount; where an int has 32 bits, the least one there is.
func past() int {
	n := maxCount
	n++
	return n
}

// ints are numbers of all kinds.
func ints() []int {
	return []int{math.MinInt, math.MinInt + 1, math.MinInt32, -maxCount, -2, -1, 0, 1, 2, 3, 4, 5, 6, 7, 8, maxCount - 2, maxCount - 1, maxCount, past(), math.MaxInt - 1, math.MaxInt}
}

// text are n bytes, all c.
func text(c string, n int) string { return strings.Repeat(c, n) }

// fromHex are bytes, told as pairs of digits with or without blanks.
func fromHex(s string) []byte {
	b, err := hex.DecodeString(strings.ReplaceAll(s, " ", ""))
	if err != nil {
		panic(err)
	}
	return b
}

// shown is anything as a text, cut where it is long.
func shown(x any) string {
	s := strings.ReplaceAll(fmt.Sprintf("%#v", x), "api.", "")
	if b, ok := x.([]byte); ok {
		s = fmt.Sprintf("%d bytes % X", len(b), b)
	}
	if len(s) > 800 {
		return s[:800] + " .."
	}
	return s
}

// same says whether two entries are alike.
func same(a, b api.Entry) bool {
	return a.Term == b.Term && a.Kind == b.Kind && a.Data == b.Data && slices.Equal(a.List, b.List)
}

// sameAll says whether two lists of entries are alike.
func sameAll(a, b []api.Entry) bool { return slices.EqualFunc(a, b, same) }

// cloned are entries in memory of their own.
func cloned(l []api.Entry) []api.Entry {
	c := slices.Clone(l)
	for i, e := range c {
		c[i].List = slices.Clone(e.List)
	}
	return c
}

// roomy is a list behind whose end other things stand.
func roomy[T any](l []T, behind ...T) []T { return append(slices.Clone(l), behind...)[:len(l)] }

// whole is all that a list's memory has, also behind its end.
func whole[T any](l []T) []T { return l[:cap(l)] }

// spoil writes over a list, adds to it, and writes over what stands behind its end.
func spoil[T any](l []T, bad T) {
	_ = append(l, bad)
	for i := range whole(l) {
		whole(l)[i] = bad
	}
}

// badEntry is an entry that may not be.
func badEntry() api.Entry { return api.Entry{Term: -9, Kind: 9, Data: "bad", List: []int{9, 9, 9}} }

// spoilEntries spoils entries and their lists.
func spoilEntries(l []api.Entry) {
	for _, e := range l {
		spoil(e.List, -9)
	}
	spoil(l, badEntry())
}

// mayBe says whether an entry may be, as plainly as can be.
func mayBe(e api.Entry) bool {
	rises := len(e.List) > 0
	for i, n := range e.List {
		rises = rises && n >= 1 && n <= maxStores && (i == 0 || n > e.List[i-1])
	}
	term := e.Term >= 1 && e.Term <= maxCount
	noData, noList := len(e.Data) == 0, len(e.List) == 0
	return term && e.Kind == 1 && noData && noList ||
		term && e.Kind == 2 && len(e.Data) <= maxEntry && noList ||
		term && e.Kind == 3 && noData && rises
}

// lay are the bytes of an entry, whatever it is; numbers that are no counts are laid as if they
// were some.
func lay(e api.Entry) []byte {
	b := binary.AppendUvarint(nil, uint64(e.Term))
	b = binary.AppendUvarint(b, uint64(e.Kind))
	b = append(binary.AppendUvarint(b, uint64(len(e.Data))), e.Data...)
	b = binary.AppendUvarint(b, uint64(len(e.List)))
	for _, n := range e.List {
		b = binary.AppendUvarint(b, uint64(n))
	}
	return b
}

// unlay is the entry of bytes, and whether there is one: the entry whose bytes, laid, they are.
func unlay(b []byte) (api.Entry, bool) {
	rest := b
	next := func() uint64 {
		n, k := binary.Uvarint(rest)
		rest = rest[max(0, k):]
		return n
	}
	e := api.Entry{Term: int(next() & math.MaxInt)}
	e.Kind = uint8(next())
	n := min(next(), uint64(len(rest)))
	e.Data, rest = string(rest[:n]), rest[n:]
	for range min(next(), 9) {
		e.List = append(e.List, int(next()&math.MaxInt))
	}
	if !mayBe(e) || string(lay(e)) != string(b) {
		return api.Entry{}, false
	}
	return e, true
}

// mustCheck asks whether an entry may be.
func mustCheck(t *testing.T, e api.Entry, want bool) {
	t.Helper()
	if got := rlog.Check(e); got != want {
		t.Fatalf("Check(%s): %v", shown(e), got)
	}
}

// mustWrite asks for an entry's bytes.
func mustWrite(t *testing.T, e api.Entry, want []byte) []byte {
	t.Helper()
	b, err := rlog.Write(e)
	if err != api.OK || string(b) != string(want) {
		t.Fatalf("Write(%s): %s, %v, want %s", shown(e), shown(b), err, shown(want))
	}
	return b
}

// mustNotWrite asks that an entry has no bytes.
func mustNotWrite(t *testing.T, e api.Entry) {
	t.Helper()
	if b, err := rlog.Write(e); err != api.ErrArg || len(b) != 0 {
		t.Fatalf("Write(%s): %s, %v, want %v", shown(e), shown(b), err, api.ErrArg)
	}
}

// mustRead asks whose bytes they are.
func mustRead(t *testing.T, b []byte, want api.Entry) api.Entry {
	t.Helper()
	e, err := rlog.Read(b)
	if err != api.OK || !same(e, want) {
		t.Fatalf("Read(%s): %s, %v, want %s", shown(b), shown(e), err, shown(want))
	}
	return e
}

// mustNotRead asks that bytes are no entry's, and that nothing of them is told.
func mustNotRead(t *testing.T, what string, b []byte) {
	t.Helper()
	if e, err := rlog.Read(b); err != api.ErrForm || !same(e, api.Entry{}) {
		t.Fatalf("%s: Read(%s): %s, %v, want %v", what, shown(b), shown(e), err, api.ErrForm)
	}
}

// mustNew is a log.
func mustNew(t *testing.T, base, term int, l []api.Entry) *rlog.Log {
	t.Helper()
	g, err := rlog.New(base, term, l)
	if err != api.OK || g == nil {
		t.Fatalf("New(%d, %d, %s): a log %v, %v", base, term, shown(l), g != nil, err)
	}
	return g
}

// mustNotNew asks that there is no such log.
func mustNotNew(t *testing.T, base, term int, l []api.Entry, want api.Errno) {
	t.Helper()
	if g, err := rlog.New(base, term, l); err != want || g != nil {
		t.Fatalf("New(%d, %d, %s): a log %v, %v, want %v", base, term, shown(l), g != nil, err, want)
	}
}

// mustAppend appends, and asks what is answered.
func mustAppend(t *testing.T, g *rlog.Log, e api.Entry, want api.Errno) {
	t.Helper()
	if err := g.Append(e); err != want {
		t.Fatalf("Append(%s): %v, want %v", shown(e), err, want)
	}
}

// mustMerge merges, and asks what is answered.
func mustMerge(t *testing.T, g *rlog.Log, prev, term int, l []api.Entry, want int, wantErr api.Errno) {
	t.Helper()
	if i, err := g.Merge(prev, term, l); i != want || err != wantErr {
		t.Fatalf("Merge(%d, %d, %s): %d, %v, want %d, %v", prev, term, shown(l), i, err, want, wantErr)
	}
}

// mustCut cuts, and asks what is answered.
func mustCut(t *testing.T, g *rlog.Log, i int, want api.Errno) {
	t.Helper()
	if err := g.Cut(i); err != want {
		t.Fatalf("Cut(%d): %v, want %v", i, err, want)
	}
}

// mustReset resets, and asks what is answered.
func mustReset(t *testing.T, g *rlog.Log, base, term int, want api.Errno) {
	t.Helper()
	if err := g.Reset(base, term); err != want {
		t.Fatalf("Reset(%d, %d): %v, want %v", base, term, err, want)
	}
}

// mustStand asks that a log is as the one in mind, at all indices that matter.
func mustStand(t *testing.T, what string, g *rlog.Log, m mind) {
	t.Helper()
	mustHaveEnds(t, what, g, m)
	for _, i := range m.indices() {
		mustStandAt(t, what, g, m, i)
		for _, most := range []int{math.MinInt, -1, 0, 1, 2, len(m.at) - 1, len(m.at), len(m.at) + 1, math.MaxInt} {
			if l, want := g.From(i, most), m.from(i, most); !sameAll(l, want) {
				t.Fatalf("%s: From(%d, %d): %s, want %s", what, i, most, shown(l), shown(want))
			}
		}
	}
}

// mustHaveEnds asks for a log's base and last, and whether others are as new.
func mustHaveEnds(t *testing.T, what string, g *rlog.Log, m mind) {
	t.Helper()
	if base, term := g.Base(); base != m.base || term != m.term {
		t.Fatalf("%s: Base: %d %d, want %d %d", what, base, term, m.base, m.term)
	}
	last, lastTerm := m.ends()
	if i, term := g.Last(); i != last || term != lastTerm {
		t.Fatalf("%s: Last: %d %d, want %d %d", what, i, term, last, lastTerm)
	}
	for _, i := range append(ints(), last-1, last, last+1) {
		for _, term := range []int{math.MinInt, lastTerm - 1, lastTerm, lastTerm + 1, math.MaxInt} {
			if got := g.Above(i, term); got != m.above(i, term) {
				t.Fatalf("%s: Last %d %d: Above(%d, %d): %v", what, last, lastTerm, i, term, got)
			}
		}
	}
}

// mustStandAt asks what a log has at an index, and below.
func mustStandAt(t *testing.T, what string, g *rlog.Log, m mind, i int) {
	t.Helper()
	wantTerm, is := m.termAt(i)
	if term, ok := g.Term(i); term != wantTerm || ok != is {
		t.Fatalf("%s: Term(%d): %d, %v, want %d, %v", what, i, term, ok, wantTerm, is)
	}
	want, is := m.at[i]
	if e, ok := g.Entry(i); !same(e, want) || ok != is {
		t.Fatalf("%s: Entry(%d): %s, %v, want %s, %v", what, i, shown(e), ok, shown(want), is)
	}
	wantList, is := m.members(i)
	if l, ok := g.Members(i); !slices.Equal(l, wantList) || ok != is {
		t.Fatalf("%s: Members(%d): %v, %v, want %v, %v", what, i, l, ok, wantList, is)
	}
}

// row are the numbers of a row that hangs on its beginning alone.
type row uint32

// next is a number from 0 on, below n.
func (r *row) next(n int) int {
	*r = *r*1664525 + 1013904223
	return int(*r>>8) % n
}

// one is one of a list.
func one[T any](r *row, l []T) T { return l[r.next(len(l))] }

// entry is an entry of a term, that may be.
func (r *row) entry(term int) api.Entry {
	switch r.next(4) {
	case 0:
		return noop(term)
	case 1:
		return members(term, voters(r.next(31))...)
	}
	b := make([]byte, one(r, []int{0, 1, 2, 3, 127, 128, 255, 256, r.next(257)}))
	for i := range b {
		b[i] = byte(r.next(256))
	}
	return change(term, string(b))
}

// entries are n entries whose terms don't fall from a term on.
func (r *row) entries(term, n int) []api.Entry {
	var l []api.Entry
	for range n {
		term = max(1, term+max(0, r.next(5)-2))
		l = append(l, r.entry(term))
	}
	return l
}
