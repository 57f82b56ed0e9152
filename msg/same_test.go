package msg_test

import (
	"slices"
	"testing"

	"buttery/api"
	"buttery/msg"
)

// P13.2: messages that differ in one field alone, for each field and all pairs of its values
// (those of items in lists, of lists' lengths and orders among them); all others are zero, or
// all are set. P13.4: they have the same bytes just if they are the same.
func TestSameButOneField(t *testing.T) {
	others := crowds(8)[:3]
	others = append(others, sample{m: api.Msg{Kind: 8}})
	for _, x := range others {
		for _, f := range fields() {
			for _, v := range f.values {
				for _, w := range f.values {
					a, b := x.m, x.m
					v.set(&a)
					w.set(&b)
					mustBeSame(t, f.name, a, b, string(v.bytes) == string(w.bytes))
				}
			}
		}
	}
}

// P13.2: messages of two Kinds, also of those that there are not.
func TestSameKinds(t *testing.T) {
	for _, x := range crowds(8)[:3] {
		for i := range 256 {
			for j := range 256 {
				a, b := x.m, x.m
				a.Kind, b.Kind = uint8(i), uint8(j)
				if msg.Same(a, b) != (i == j) {
					t.Fatalf("the Kinds %d and %d: %v", i, j, i != j)
				}
			}
		}
	}
}

// P13.2: a message and itself, and what is the same in other memory.
func TestSameAsItself(t *testing.T) {
	for _, x := range samples() {
		mustBeSame(t, "itself", x.m, x.m, true)
		mustBeSame(t, "in other memory", x.m, cloned(x.m), true)
		mustBeSame(t, "with room behind its lists", x.m, withRoom(x.m), true)
	}
}

// P13.2, P13.4: of any two messages.
func TestSameOfAnyTwo(t *testing.T) {
	l := samples()
	for i := range l {
		for k := i; k < len(l); k += 1 + i%7 {
			mustBeSame(t, "two", l[i].m, l[k].m, string(l[i].b) == string(l[k].b))
		}
	}
}

// P13.2: nil lists and empty ones are the same.
func TestSameWithoutItems(t *testing.T) {
	a := api.Msg{Kind: 5, Entries: []api.Entry{{Term: 1}}}
	b := api.Msg{Kind: 5, Entries: []api.Entry{{Term: 1, List: []int{}}}, List: []int{}, Pairs: []api.Pair{}, Lasts: []api.Last{}}
	mustBeSame(t, "nil and empty", a, b, true)
	mustBeSame(t, "nil and empty", api.Msg{}, api.Msg{Entries: []api.Entry{}}, true)
	mustEncode(t, a, mustEncode(t, b, lay(a)))
}

// changes are ways to change a message in one item of a list: in one of the item's fields, or
// such that it has changed places with the first one, is there no more, or one is there ahead.
func changes(m api.Msg) []func(*api.Msg) {
	var l []func(*api.Msg)
	with := func(ways ...func(*api.Msg)) { l = append(l, ways...) }
	for i, e := range m.Entries {
		with(
			func(m *api.Msg) { m.Entries[i].Term++ },
			func(m *api.Msg) { m.Entries[i].Kind++ },
			func(m *api.Msg) { m.Entries[i].Data += "x" },
			func(m *api.Msg) { m.Entries[i].List = append(m.Entries[i].List, 0) },
			func(m *api.Msg) { m.Entries = slices.Delete(m.Entries, i, i+1) },
			func(m *api.Msg) { m.Entries = slices.Insert(m.Entries, i, api.Entry{}) },
			func(m *api.Msg) { m.Entries[0], m.Entries[i] = m.Entries[i], m.Entries[0] },
		)
		for k := range e.List {
			with(
				func(m *api.Msg) { m.Entries[i].List[k]++ },
				func(m *api.Msg) { m.Entries[i].List = slices.Delete(m.Entries[i].List, k, k+1) },
			)
		}
	}
	for i := range m.List {
		with(
			func(m *api.Msg) { m.List[i]-- },
			func(m *api.Msg) { m.List = slices.Delete(m.List, i, i+1) },
			func(m *api.Msg) { m.List = slices.Insert(m.List, i, 0) },
			func(m *api.Msg) { m.List[0], m.List[i] = m.List[i], m.List[0] },
		)
	}
	for i := range m.Pairs {
		with(
			func(m *api.Msg) { m.Pairs[i].Key += "\x00" },
			func(m *api.Msg) { m.Pairs[i].Value += "\x00" },
			func(m *api.Msg) { m.Pairs = slices.Delete(m.Pairs, i, i+1) },
			func(m *api.Msg) { m.Pairs = slices.Insert(m.Pairs, i, api.Pair{}) },
			func(m *api.Msg) { m.Pairs[0], m.Pairs[i] = m.Pairs[i], m.Pairs[0] },
		)
	}
	for i := range m.Lasts {
		with(
			func(m *api.Msg) { m.Lasts[i].Client++ },
			func(m *api.Msg) { m.Lasts[i].ID++ },
			func(m *api.Msg) { m.Lasts[i].Result.Kind++ },
			func(m *api.Msg) { m.Lasts[i].Result.Found = !m.Lasts[i].Result.Found },
			func(m *api.Msg) { m.Lasts[i].Result.Value += "x" },
			func(m *api.Msg) { m.Lasts = slices.Delete(m.Lasts, i, i+1) },
			func(m *api.Msg) { m.Lasts = slices.Insert(m.Lasts, i, api.Last{}) },
			func(m *api.Msg) { m.Lasts[0], m.Lasts[i] = m.Lasts[i], m.Lasts[0] },
		)
	}
	return l
}

// P13.2, P13.4: of lists of which one item is another one, stands elsewhere, or lacks.
func TestSameButOneItem(t *testing.T) {
	for _, x := range crowds(3) {
		for _, change := range changes(x.m) {
			c := cloned(x.m)
			change(&c)
			b := lay(c)
			mustBeSame(t, "an item", x.m, c, string(b) == string(x.b))
			mustEncode(t, c, b)
		}
	}
}

// P13.2: messages too long to be, which differ in their last thing.
func TestSameOfLong(t *testing.T) {
	for _, x := range growing() {
		for _, n := range []int{x.most, x.most + 1, 50000} {
			a, b, c := x.make(n), x.make(n), x.make(n+1)
			mustBeSame(t, x.name, a, b, true)
			mustBeSame(t, x.name, a, c, false)
			b.Command.Epoch++
			mustBeSame(t, x.name, a, b, false)
		}
	}
}

// R1: neither call changes what it is handed.
func TestTwinAndSameChangeNothing(t *testing.T) {
	for _, x := range samples() {
		m, n := withRoom(x.m), withRoom(x.m)
		was := cloned(wide(m))
		msg.Twin(m)
		msg.Same(m, n)
		msg.Encode(m)
		if !alike(wide(m), was) || !alike(wide(n), was) || !alike(m, x.m) {
			t.Fatalf("%s: %s, %s", shown(x.m), shown(m), shown(n))
		}
	}
}
