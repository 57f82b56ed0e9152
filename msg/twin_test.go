package msg_test

import (
	"slices"
	"testing"

	"buttery/api"
	"buttery/msg"
)

// mustTwin is a message's twin.
func mustTwin(t *testing.T, m api.Msg) api.Msg {
	t.Helper()
	twin := msg.Twin(m)
	if !alike(twin, m) || !msg.Same(twin, m) || !msg.Same(m, twin) {
		t.Fatalf("Twin(%s): %s", shown(m), shown(twin))
	}
	return twin
}

// withRoom is a message whose lists have room behind their ends, in which other things stand.
func withRoom(m api.Msg) api.Msg {
	m.Entries = roomy(m.Entries, api.Entry{Term: 99, List: []int{99}}, api.Entry{Term: 98})
	for i, e := range m.Entries {
		m.Entries[i].List = roomy(e.List, 97, 96)
	}
	m.List = roomy(m.List, 95, 94)
	m.Pairs = roomy(m.Pairs, api.Pair{Key: "93"}, api.Pair{Key: "92"})
	m.Lasts = roomy(m.Lasts, api.Last{ID: 91}, api.Last{ID: 90})
	return m
}

// wide is a message with all that its lists' memory has, behind their ends too.
func wide(m api.Msg) api.Msg {
	m.Entries = slices.Clone(whole(m.Entries))
	for i, e := range m.Entries {
		m.Entries[i].List = whole(e.List)
	}
	m.List, m.Pairs, m.Lasts = whole(m.List), whole(m.Pairs), whole(m.Lasts)
	return m
}

// P13.2: a twin is the same, of messages that may be and of others.
func TestTwin(t *testing.T) {
	mustTwin(t, api.Msg{})
	for _, x := range samples() {
		mustTwin(t, x.m)
		for _, kind := range []uint8{0, 20, 255} {
			x.m.Kind = kind
			mustTwin(t, x.m)
		}
	}
	for _, x := range growing() {
		mustTwin(t, x.make(x.most+1))
		mustTwin(t, x.make(100000))
	}
}

// P13.2, R3: what is written over in each of the twin's lists, or added to it, does not show in
// the first one, behind its lists' ends either.
func TestTwinWrittenOver(t *testing.T) {
	for _, x := range samples() {
		m := withRoom(x.m)
		was := cloned(wide(m))
		for i := range scribbles(m) {
			twin := mustTwin(t, m)
			scribbles(twin)[i]()
			if !alike(m, x.m) || !alike(wide(m), was) {
				t.Fatalf("the list %d of the twin of %s was written over: %s", i, shown(x.m), shown(m))
			}
		}
	}
}

// P13.2, R3: nor does what is written over in the first one's show in the twin.
func TestTwinStays(t *testing.T) {
	for _, x := range samples() {
		for i := range scribbles(x.m) {
			m := withRoom(x.m)
			twin := mustTwin(t, m)
			scribbles(m)[i]()
			if !alike(twin, x.m) {
				t.Fatalf("the list %d of %s was written over: its twin is %s", i, shown(x.m), shown(twin))
			}
		}
	}
}

// R3: no two lists of a twin share memory, though those of the first one do; nor do two twins'.
func TestTwinsAreApart(t *testing.T) {
	shared := roomy([]int{1, 2, 3}, 4, 5)
	m := api.Msg{Kind: 3, List: shared[1:2], Entries: []api.Entry{{List: shared[:0]}, {List: shared}, {List: shared[:2]}, {List: shared}}}
	was := cloned(m)
	one, two := mustTwin(t, m), mustTwin(t, m)
	mustBeApart(t, one)
	if !alike(m, was) || !alike(two, was) {
		t.Fatalf("%s, and its twin %s", shown(m), shown(two))
	}
	for _, x := range samples() {
		twin := mustTwin(t, x.m)
		mustBeApart(t, mustTwin(t, x.m))
		if !alike(twin, x.m) {
			t.Fatalf("%s: %s", shown(x.m), shown(twin))
		}
	}
}
