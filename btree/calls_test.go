package btree_test

import (
	"fmt"
	"math"
	"strings"
	"testing"

	"buttery/api"
	"buttery/btree"
)

// P7.1: of no pager there is no tree, and of no tree nothing is told.
func TestNil(t *testing.T) {
	tree := btree.New(nil)
	if tree != nil {
		t.Fatal("New(nil) is a tree")
	}
	for _, key := range []string{"", "a", text(1, 49)} {
		mustNotGet(t, tree, key, api.ErrNil)
		mustNotPut(t, tree, key, "v", api.ErrNil)
		mustNotPut(t, tree, key, text(2, 8193), api.ErrNil)
		mustNotDel(t, tree, key, api.ErrNil)
		mustNotRange(t, tree, key, "", api.ErrNil)
	}
	must(t, "Commit", tree.Commit(), api.ErrNil)
	must(t, "Abort", tree.Abort(), api.ErrNil)
	mustFree(t, "nil", tree, 0)
}

// R1: a tree that New did not make only doesn't panic.
func TestMadeOtherwise(t *testing.T) {
	tree := new(btree.Tree)
	tree.Get("a")
	tree.Put("a", "b")
	tree.Del("a")
	tree.Range("", "")
	tree.Free()
	tree.Commit()
	tree.Abort()
}

// P7.1: an empty tree.
func TestEmpty(t *testing.T) {
	tree := mustTree(t, 64)
	for _, key := range []string{"", "a", text(1, 48)} {
		mustNotGet(t, tree, key, api.OK)
		mustDel(t, tree, key, false)
		mustRange(t, tree, key, "", nil)
		mustRange(t, tree, "", key, nil)
	}
	mustFree(t, "empty", tree, 46)
}

// P7.1: keys of each length, that are there and that are not, ahead of the first and behind
// the last, with few others and with many.
func TestKeys(t *testing.T) {
	for _, many := range []int{0, 1, 3, 40, 400} {
		_, p := mustFormat(t, 2000)
		tree, m := btree.New(p), mind{}
		put := func(key, value string) {
			mustPut(t, tree, key, value)
			m[key] = value
		}
		for i := range many {
			put(numbered(1000+i*7919%many, 5+i%43), text(i, i%65))
			must(t, "Commit", tree.Commit(), api.OK)
		}
		keys := []string{"", "\x00", "\x00\x00", strings.Repeat("\x00", 48), "a", "\xff", strings.Repeat("\xff", 47), strings.Repeat("\xff", 48)}
		for i := range 10 {
			keys = append(keys, numbered(990+i*many/8, 48), numbered(995+i*many/8, 4))
		}
		for i, key := range keys {
			mustNotGet(t, tree, key, api.OK)
			mustDel(t, tree, key, false)
			put(key, fmt.Sprint("v", i))
			mustGet(t, tree, key, fmt.Sprint("v", i))
			mustBe(t, "put", p, m)
			mustDel(t, tree, key, true)
			delete(m, key)
			mustNotGet(t, tree, key, api.OK)
			mustDel(t, tree, key, false)
			mustBe(t, "gone", p, m)
		}
		for i, key := range keys {
			put(key, fmt.Sprint("w", i))
		}
		mustBe(t, "all", p, m)
		for key, value := range m {
			mustGet(t, tree, key, value)
		}
	}
}

// P7.1: keys that are too long are refused, and nothing is changed.
func TestKeysTooLong(t *testing.T) {
	_, p := mustFormat(t, 64)
	tree := btree.New(p)
	mustPut(t, tree, strings.Repeat("k", 48), "1")
	was := places(t, "one", p)
	for _, n := range []int{49, 50, 512, 1 << 20} {
		key := strings.Repeat("k", n)
		mustNotGet(t, tree, key, api.ErrArg)
		mustNotPut(t, tree, key, "1", api.ErrArg)
		mustNotDel(t, tree, key, api.ErrArg)
		mustRange(t, tree, key, "", nil) // what is asked for there is no key
		mustRange(t, tree, "", key, []btree.Cell{{Key: strings.Repeat("k", 48), Value: "1"}})
	}
	if unlike(was, places(t, "refused", p)) != 0 {
		t.Fatal("something was changed")
	}
}

// P7.1: values of each length, put over one another in every order, with others beside them.
func TestValues(t *testing.T) {
	long := []int{0, 64, 65, 480, 481, 960, 961, 8192}
	for _, many := range []int{0, 5, 60} {
		_, p := mustFormat(t, 1000)
		tree, m := btree.New(p), mind{}
		for i := range many {
			key, value := numbered(i, 20), text(i, one(new(row), []int{5, 64, 100}))
			mustPut(t, tree, key, value)
			m[key] = value
		}
		for i, a := range long {
			for j, b := range long {
				for _, key := range []string{"", numbered(many/2, 21), "z"} {
					first, second := text(i, a), text(100+j, b)
					mustPut(t, tree, key, first)
					mustGet(t, tree, key, first)
					mustPut(t, tree, key, second)
					mustGet(t, tree, key, second)
					m[key] = second
					mustBe(t, fmt.Sprint(a, " then ", b), p, m)
					must(t, "Commit", tree.Commit(), api.OK)
				}
			}
		}
		for _, n := range []int{8193, 8194, 1 << 20} {
			mustNotPut(t, tree, "z", text(1, n), api.ErrArg)
			mustNotPut(t, tree, "new", text(1, n), api.ErrArg)
		}
		mustBe(t, "too long", p, m)
	}
}

// P7.1: the bytes of a value are all that stand there, whatever they are.
func TestBytesOfValues(t *testing.T) {
	tree := mustTree(t, 300)
	for _, c := range []string{"\x00", "\x01", "\xff", "a"} {
		for _, n := range sizes() {
			v := strings.Repeat(c, n)
			mustPut(t, tree, "k", v)
			mustGet(t, tree, "k", v)
			mustRange(t, tree, "", "", []btree.Cell{{Key: "k", Value: v}})
		}
	}
}

// P7.1: ranges of all kinds, of trees of all sizes.
func TestRanges(t *testing.T) {
	for _, many := range []int{0, 1, 2, 10, 60, 400} {
		tree, m := mustTree(t, 2000), mind{}
		bounds := []string{"", "\x00", "\xff", strings.Repeat("\xff", 60)}
		for i := range many {
			key, value := numbered(i*256, 4+i%40), text(i, []int{3, 64, 70, 500}[i%4])
			mustPut(t, tree, key, value)
			m[key] = value
			must(t, "Commit", tree.Commit(), api.OK)
			if i%(many/8+1) == 0 {
				bounds = append(bounds, key, key+"\x00", key[:len(key)-1], numbered(i*256+1, 4), numbered(i*256+255, 48))
			}
		}
		for _, from := range bounds {
			for _, to := range bounds {
				mustRange(t, tree, from, to, m.cells(from, to))
			}
		}
		mustRange(t, tree, "", "", m.cells("", ""))
	}
}

// P7.1: from a key that is there, and from one that is not; to one, to the end, to one that is
// not above from.
func TestRangeByItsWords(t *testing.T) {
	tree := mustTree(t, 200)
	cell := func(keys ...string) (l []btree.Cell) {
		for _, k := range keys {
			l = append(l, btree.Cell{Key: k, Value: "v" + k})
		}
		return l
	}
	for _, c := range cell("d", "b", "", "f") {
		mustPut(t, tree, c.Key, c.Value)
	}
	for _, x := range []struct {
		from, to string
		want     []btree.Cell
	}{
		{"", "", cell("", "b", "d", "f")},
		{"b", "", cell("b", "d", "f")},
		{"c", "", cell("d", "f")},
		{"\x00", "", cell("b", "d", "f")},
		{"b", "d", cell("b")},
		{"b", "d\x00", cell("b", "d")},
		{"", "b", cell("")},
		{"", "\x00", cell("")},
		{"a", "z", cell("b", "d", "f")},
		{"b", "b", nil},
		{"d", "b", nil},
		{"f", "a", nil},
		{"f", "", cell("f")},
		{"f\x00", "", nil},
		{"g", "h", nil},
	} {
		mustRange(t, tree, x.from, x.to, x.want)
	}
}

// P7.1: Free behind each kind of call.
func TestFree(t *testing.T) {
	tree := mustTree(t, 400)
	free := 298
	same := func(what string) {
		t.Helper()
		mustFree(t, what, tree, free)
	}
	same("new")
	mustPut(t, tree, "k", "v")
	free--
	same("a leaf")
	mustPut(t, tree, "k", "w")
	same("another value")
	mustPut(t, tree, "l", text(1, 65))
	free--
	same("a long page")
	mustPut(t, tree, "l", text(1, 8192))
	free -= 17
	same("eighteen")
	mustPut(t, tree, "l", text(1, 481))
	free += 16
	same("two")
	mustGet(t, tree, "l", text(1, 481))
	mustRange(t, tree, "k", "l", []btree.Cell{{Key: "k", Value: "w"}})
	mustDel(t, tree, "m", false)
	mustNotPut(t, tree, "m", text(1, 8193), api.ErrArg)
	same("nothing")
	must(t, "Commit", tree.Commit(), api.OK)
	same("Commit")
	mustDel(t, tree, "l", true)
	free += 2
	same("Del of a long value")
	mustDel(t, tree, "k", true)
	free++
	same("Del of the last pair")
	must(t, "Abort", tree.Abort(), api.OK)
	free -= 3
	same("Abort")
}

// P7.1: of several errors the one that the chapter names first is answered.
func TestErrorsInTheirOrder(t *testing.T) {
	longKey, longValue := text(1, 49), text(2, 8193)
	d, p := mustFormat(t, 64)
	tree := btree.New(p)
	mustPut(t, tree, "k", "v")
	must(t, "Commit", tree.Commit(), api.OK)
	mustTake(t, p, 45-spare)
	must(t, "Crash", d.Crash(nil), api.OK)
	mustFree(t, "dead", tree, spare)
	mustNotGet(t, tree, longKey, api.ErrArg)
	mustNotPut(t, tree, longKey, "v", api.ErrArg)
	mustNotPut(t, tree, "k", longValue, api.ErrArg)
	mustNotDel(t, tree, longKey, api.ErrArg)
	mustNotGet(t, tree, "k", api.ErrDead)
	mustNotPut(t, tree, "k", text(3, 65), api.ErrFull)
	mustNotPut(t, tree, "k", "w", api.ErrDead)
	mustNotDel(t, tree, "k", api.ErrDead)
	mustNotDel(t, tree, "none", api.ErrDead)
	mustNotRange(t, tree, "", "", api.ErrDead)
	mustNotRange(t, tree, longKey, "", api.ErrDead)
	must(t, "Commit", tree.Commit(), api.ErrDead)
	mustFree(t, "dead", tree, spare)

	d, p = mustFormat(t, 64)
	tree = btree.New(p)
	mustTake(t, p, 46-spare)
	must(t, "Crash", d.Crash(nil), api.OK)
	mustNotPut(t, tree, "k", "v", api.ErrDead)
	mustNotPut(t, tree, "k", longValue, api.ErrArg)

	_, p = mustFormat(t, 64)
	mustTake(t, p, 46-spare)
	must(t, "SetRoot", p.SetRoot(1), api.OK) // that is no node
	tree = btree.New(p)
	mustNotPut(t, tree, longKey, "v", api.ErrArg)
	mustNotPut(t, tree, "k", text(3, 65), api.ErrFull)
	mustNotPut(t, tree, "k", "v", api.ErrForm)
	mustNotDel(t, tree, longKey, api.ErrArg)
	mustNotDel(t, tree, "k", api.ErrForm)
	mustNotGet(t, tree, longKey, api.ErrArg)
	mustNotGet(t, tree, "k", api.ErrForm)
	mustNotRange(t, tree, "", "", api.ErrForm)
	mustTake(t, p, 1)
	mustNotPut(t, tree, "k", "v", api.ErrFull)
	mustNotDel(t, tree, "k", api.ErrFull)
	mustNotDel(t, tree, longKey, api.ErrArg)
	mustNotGet(t, tree, "k", api.ErrForm)
}

// R3: what is told shares no memory with the tree, nor with another answer.
func TestAnswersAreNew(t *testing.T) {
	tree, m := mustTree(t, 400), mind{}
	for i := range 30 {
		key, value := numbered(i, 10), text(i, 20*i)
		mustPut(t, tree, key, value)
		m[key] = value
	}
	want := m.cells("", "")
	first, err := tree.Range("", "")
	must(t, "Range", err, api.OK)
	second, err := tree.Range("", "")
	must(t, "Range", err, api.OK)
	value, _, err := tree.Get(numbered(29, 10))
	must(t, "Get", err, api.OK)
	for i := range first[:cap(first)] {
		first[:cap(first)][i] = btree.Cell{Key: "scribbled", Value: "scribbled"}
	}
	for i := range 30 {
		mustPut(t, tree, numbered(i, 10), text(math.MaxInt8+i, 20*i))
	}
	if fmt.Sprint(second) != fmt.Sprint(want) || value != text(29, 580) {
		t.Fatal("an answer was changed")
	}
	must(t, "Abort", tree.Abort(), api.OK)
	mustRange(t, tree, "", "", nil)
}
