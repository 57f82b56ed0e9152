package dedup_test

import (
	"maps"
	"slices"
	"testing"

	"buttery/api"
	"buttery/dedup"
)

// inMap does an operation to one of the language's own maps.
func inMap(m map[string]string, op api.Op) api.Result {
	was, had := m[op.Key]
	switch op.Kind {
	case 1:
		return api.Result{Kind: 1, Found: had, Value: was}
	case 3:
		delete(m, op.Key)
		return api.Result{Kind: 1, Found: had}
	case 4:
		if had != op.Had || had && was != op.Old {
			return done()
		}
		m[op.Key] = op.Value
		return found()
	}
	m[op.Key] = op.Value
	return done()
}

// listOf are a map's pairs, by rising keys.
func listOf(m map[string]string) []api.Pair {
	var l []api.Pair
	for _, key := range slices.Sorted(maps.Keys(m)) {
		l = append(l, api.Pair{Key: key, Value: m[key]})
	}
	return l
}

// P9.4: a list that comes out of operations on an empty one is a map: its keys rise, each with
// the value that was put last.
func TestRowsAgainstAMap(t *testing.T) {
	for seed := range 60 {
		r := row(seed)
		var l []api.Pair
		m := map[string]string{}
		longest := 0
		for range 400 {
			op := r.op()
			if r.next(20) == 0 {
				wrong := r.wrong()
				mustNotDo(t, l, wrong, mindCheck(wrong))
			}
			if seed%2 == 0 && op.Kind == api.Delete && r.next(3) > 0 {
				op.Kind = api.Put // so that some grow long
			}
			if v, ok := m[op.Key]; ok && r.next(2) == 0 {
				op.Old, op.Had = v, true // so that more of them fit
			}
			res := inMap(m, op)
			l = mustDo(t, l, op, listOf(m), res)
			longest = max(longest, len(l))
		}
		if longest < 10 {
			t.Errorf("seed %d: at most %d pairs", seed, longest)
		}
		for _, key := range []string{"a", "b", "ab", "c", "\x00", "\xff", "none"} {
			if v, ok := m[key]; ok {
				mustFind(t, l, key, v)
			} else {
				mustNotFind(t, l, key)
			}
		}
	}
}

// P9.4: so is what comes out of requests, beside the last writes, whose clients rise.
func TestRowsOfRequestsAgainstAMap(t *testing.T) {
	for seed := range 60 {
		r := row(seed)
		var s lists
		m := map[string]string{}
		lasts := map[int]api.Last{}
		for id := range 300 {
			client, op := 201+r.next(5), r.write()
			res := inMap(m, op)
			lasts[client] = last(client, id, res)
			want := lists{m: listOf(m)}
			for _, c := range slices.Sorted(maps.Keys(lasts)) {
				want.l = append(want.l, lasts[c])
			}
			s = mustStep(t, s, client, id, op, want, res)
		}
	}
}

// request is a client's request.
type request struct {
	client, id int
	op         api.Op
}

// requests are drawn requests, each of a client by rising IDs.
func (r *row) requests(many int) []request {
	ids := map[int]int{}
	var l []request
	for range many {
		client := 201 + r.next(4)
		ids[client] += 1 + r.next(3)
		l = append(l, request{client, ids[client], r.write()})
	}
	return l
}

// P9.5: requests that come again, at once or late, do nothing: the lists are those without
// them; and each is told what it was told first, or ErrTwice, if its client has gone on.
func TestRequestsThatComeAgain(t *testing.T) {
	atOnce, late := 0, 0
	for seed := range 200 {
		r := row(seed)
		var s, without lists
		first := map[[2]int]api.Result{}
		newest := map[int]int{}
		var come []request
		for _, q := range r.requests(60) {
			want, res, err := mindStep(without, q.client, q.id, q.op)
			if err != api.OK {
				t.Fatalf("seed %d: %v: %v", seed, q, err)
			}
			without = want
			s = mustStep(t, s, q.client, q.id, q.op, without, res)
			first[[2]int{q.client, q.id}], newest[q.client] = res, q.id
			come = append(come, q)
			for range r.next(4) {
				again := one(&r, append([]request{q}, come...))
				if newest[again.client] == again.id {
					atOnce++
					s = mustStep(t, s, again.client, again.id, again.op, without, first[[2]int{again.client, again.id}])
				} else {
					late++
					mustNotStep(t, s, again.client, again.id, again.op, api.ErrTwice)
				}
			}
		}
		for _, q := range come { // all of them once more
			if newest[q.client] == q.id {
				s = mustStep(t, s, q.client, q.id, q.op, without, first[[2]int{q.client, q.id}])
			} else {
				mustNotStep(t, s, q.client, q.id, q.op, api.ErrTwice)
			}
		}
	}
	if atOnce < 1000 || late < 1000 {
		t.Errorf("%d came again at once, %d late", atOnce, late)
	}
}

// P9.5: all short rows of requests of two clients, with whatever comes again in between: what
// is done is what comes once alone, and nothing is told two ways.
func TestAllShortRowsOfRequests(t *testing.T) {
	all := []request{
		{201, 1, fresh("a", "1")}, {201, 2, swap("a", "1", "2")}, {201, 3, del("a")},
		{202, 1, put("a", "1")}, {202, 2, del("b")},
	}
	everyList(6, all, func(l []request) {
		var s, without lists
		newest := map[int]int{}
		first := map[request]api.Result{}
		for _, q := range l {
			was, came := first[q]
			switch {
			case newest[q.client] > q.id: // also where it comes first now, since it was overtaken
				mustNotStep(t, s, q.client, q.id, q.op, api.ErrTwice)
			case came:
				s = mustStep(t, s, q.client, q.id, q.op, without, was)
			default:
				m, r := mindDo(without.m, q.op)
				without = lists{m, mindNote(without.l, last(q.client, q.id, r))}
				s = mustStep(t, s, q.client, q.id, q.op, without, r)
				first[q], newest[q.client] = r, q.id
			}
		}
	})
}

// others are the pairs that do not have a key.
func others(m []api.Pair, key string) []api.Pair {
	return slices.DeleteFunc(slices.Clone(m), func(p api.Pair) bool { return p.Key == key })
}

// otherClients are the last writes of other clients.
func otherClients(l []api.Last, client int) []api.Last {
	return slices.DeleteFunc(slices.Clone(l), func(x api.Last) bool { return x.Client == client })
}

// P9.6: what is done to one key changes no other one, in whatever list.
func TestKeysApart(t *testing.T) {
	r := row(96)
	for range 20000 {
		m, op := r.pairs(12), r.op()
		got, _, err := dedup.Do(m, op)
		if err != api.OK || !slices.Equal(others(got, op.Key), others(m, op.Key)) {
			t.Fatalf("Do(%s, %s): %s, %v: other keys are changed", shown(m), shown(op), shown(got), err)
		}
		for _, key := range []string{"a", "b", "ab", "c", "\x00", "\xff", ""} {
			was, had := dedup.Find(m, key)
			is, has := dedup.Find(got, key)
			if key != op.Key && (was != is || had != has) {
				t.Fatalf("Do(%s, %s): %s: %q is changed", shown(m), shown(op), shown(got), key)
			}
		}
	}
}

// P9.6: what one client does changes no other one's last write, in whatever list; and of its
// own only the first one.
func TestClientsApart(t *testing.T) {
	r := row(69)
	apart := func(l, got []api.Last, client int) {
		t.Helper()
		if !slices.Equal(otherClients(got, client), otherClients(l, client)) {
			t.Fatalf("%s is %s now: what other clients than %d did is changed", shown(l), shown(got), client)
		}
		for other := 199; other < 208; other++ {
			for id := range 6 {
				was, err := dedup.Seen(l, other, id)
				if is, e := dedup.Seen(got, other, id); other != client && (is != was || e != err) {
					t.Fatalf("%s is %s now: Seen of %d %d", shown(l), shown(got), other, id)
				}
			}
		}
	}
	for range 5000 {
		s, client, id, op := lists{r.pairs(5), r.lasts(10)}, 200+r.next(7), r.next(8), r.write()
		apart(s.l, dedup.Note(s.l, last(client, id, done())), client)
		m, l, _, err := dedup.Step(s.m, s.l, client, id, op)
		if err == api.OK {
			apart(s.l, l, client)
			if !slices.Equal(others(m, op.Key), others(s.m, op.Key)) {
				t.Fatalf("Step(%s, %d, %d, %s): %s: other keys are changed", shown(s), client, id, shown(op), shown(m))
			}
		}
	}
}
