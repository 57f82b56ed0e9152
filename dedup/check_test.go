package dedup_test

import (
	"fmt"
	"math"
	"testing"

	"buttery/api"
)

// P9.1: of each kind, and of each that is none, one that is good but for that.
func TestCheckOfKinds(t *testing.T) {
	for kind := range 256 {
		want := api.ErrArg
		if kind >= 1 && kind <= 4 {
			want = api.OK
		}
		mustCheck(t, api.Op{Kind: uint8(kind), Key: "k"}, want)
		mustCheck(t, api.Op{Kind: uint8(kind), Key: "k", Value: "v", Old: "o", Had: true}, want)
	}
}

// P9.1: each length by itself.
func TestCheckOfLengths(t *testing.T) {
	for kind := range uint8(4) {
		for _, x := range []struct {
			key, value, old int
			want            api.Errno
		}{
			{0, 0, 0, api.ErrTooLarge}, {1, 0, 0, api.OK}, {2, 0, 0, api.OK},
			{31, 0, 0, api.OK}, {32, 0, 0, api.OK}, {33, 0, 0, api.ErrTooLarge}, {100000, 0, 0, api.ErrTooLarge},
			{1, 1, 0, api.OK}, {1, 1999, 0, api.OK}, {1, 2000, 0, api.OK}, {1, 2001, 0, api.ErrTooLarge}, {1, 100000, 0, api.ErrTooLarge},
			{1, 0, 1, api.OK}, {1, 0, 1999, api.OK}, {1, 0, 2000, api.OK}, {1, 0, 2001, api.ErrTooLarge}, {1, 0, 100000, api.ErrTooLarge},
			{32, 2000, 2000, api.OK},
		} {
			for _, had := range []bool{false, true} {
				mustCheck(t, api.Op{Kind: kind + 1, Key: text("k", x.key), Value: text("v", x.value), Old: text("o", x.old), Had: had}, x.want)
			}
		}
	}
}

// lengthsOf are operations of a kind with each thing at its edges, all with all.
func lengthsOf(kind uint8) []api.Op {
	var l []api.Op
	for _, key := range []int{0, 1, 32, 33} {
		for _, value := range []int{0, 2000, 2001} {
			for _, old := range []int{0, 2000, 2001} {
				for _, had := range []bool{false, true} {
					l = append(l, api.Op{Kind: kind, Key: text("k", key), Value: text("v", value), Old: text("o", old), Had: had})
				}
			}
		}
	}
	return l
}

// P9.1: all together; a kind that is none goes ahead of what is too long.
func TestCheckOfAllTogether(t *testing.T) {
	refused := map[api.Errno]int{}
	for _, kind := range []uint8{0, 1, 2, 3, 4, 5, 255} {
		for _, op := range lengthsOf(kind) {
			want := mindCheck(op)
			mustCheck(t, op, want)
			refused[want]++
		}
	}
	if refused[api.ErrArg] != 3*72 || refused[api.OK] != 4*2*2*2*2 || refused[api.ErrTooLarge] != 4*(72-16) {
		t.Error(refused)
	}
}

// P9.1: keys and values are any bytes.
func TestCheckOfAnyBytes(t *testing.T) {
	for b := range 256 {
		s := string([]byte{byte(b)})
		mustCheck(t, put(s, s), api.OK)
		mustCheck(t, swap(text(s, 32), text(s, 2000), text(s, 2000)), api.OK)
		mustCheck(t, get(text(s, 33)), api.ErrTooLarge)
	}
	mustCheck(t, get(text("\u00e9", 16)), api.OK) // 32 bytes, that are 16 runes
	mustCheck(t, get(text("\u00e9", 17)), api.ErrTooLarge)
}

// P9.1: shards of keys, by hand.
func TestPlace(t *testing.T) {
	for _, x := range []struct {
		key          string
		shards, want int
	}{
		{"ab", 4, 3}, {"ba", 4, 3}, {"ab", 1, 0}, {"ab", 2, 1}, {"ab", 64, 3}, {"ab", 194, 1}, {"ab", 195, 0}, {"ab", 196, 195},
		{"", 1, 0}, {"", 4, 0}, {"\x00", 4, 0}, {"\x00\x00\x01", 4, 1}, {"\xff", 4, 3}, {"\xff", 64, 63}, {"\xff", 256, 255}, {"\xff", 255, 0},
		{"\xff\xff", 4, 2}, {"\xff\x01", 4, 0}, {"\x80", 200, 128}, {"a", 4, 1}, {"b", 4, 2}, {"c", 4, 3}, {"d", 4, 0},
		{"\u00e9", 1000, 0xc3 + 0xa9}, // two bytes
		{"ab", math.MaxInt, 195},
		{"ab", 0, 0}, {"ab", -1, 0}, {"ab", -4, 0}, {"ab", math.MinInt, 0}, {"", 0, 0}, {"", -1, 0},
	} {
		mustPlace(t, x.key, x.shards, x.want)
	}
	mustPlace(t, text("\xff", 1<<20), math.MaxInt32, 255<<20)
	mustPlace(t, text("\xff", 1<<24), 1000003, 255<<24%1000003)
}

// P9.1: of many keys it is always one of the shards that there are, and of the same key the same.
func TestPlaceOfManyKeys(t *testing.T) {
	r := row(9)
	var keys []string
	for range 3000 {
		keys = append(keys, r.text(one(&r, []int{1, 3, 32, 100})))
	}
	for _, shards := range []int{math.MinInt, -1, 0, 1, 2, 3, 4, 64, math.MaxInt} {
		used := map[int]bool{}
		for _, key := range keys {
			n := mindPlace(key, shards)
			mustPlace(t, key, shards, n)
			mustPlace(t, string([]byte(key)), shards, n)
			if n < 0 || n > 0 && n >= shards {
				t.Fatalf("the shard %d of %d", n, shards)
			}
			used[n] = true
		}
		if shards >= 1 && shards <= 64 && len(used) != shards {
			t.Errorf("%d of %d shards", len(used), shards)
		}
	}
}

// P9.1: values of keys: of none, one, the first of more.
func TestFind(t *testing.T) {
	mustNotFind(t, nil, "a")
	mustNotFind(t, []api.Pair{}, "a")
	mustNotFind(t, nil, "")
	mustNotFind(t, pairs("a", "1"), "")
	mustNotFind(t, pairs("a", "1"), "b")
	mustNotFind(t, pairs("a", "1"), "aa")
	mustNotFind(t, pairs("aa", "1"), "a")
	mustNotFind(t, pairs("a\x00", "1"), "a")
	mustNotFind(t, pairs("a", "1"), "A")
	mustFind(t, pairs("a", "1"), "a", "1")
	mustFind(t, pairs("a", ""), "a", "")
	mustFind(t, pairs("", "1"), "", "1")
	m := pairs("b", "1", "a", "2", "c", "3", "a", "4", "b", "5", "", "6")
	mustFind(t, m, "a", "2")
	mustFind(t, m, "b", "1")
	mustFind(t, m, "c", "3")
	mustFind(t, m, "", "6")
	mustNotFind(t, m, "d")
	mustFind(t, pairs("a", "", "a", "2"), "a", "")
	mustFind(t, pairs(text("k", 100), text("v", 3000)), text("k", 100), text("v", 3000))
	mustNotFind(t, m[1:3], "b")
	mustNotFind(t, m[:2], "c") // what stands behind the end is not there
}

// P9.1: a key's value in a long list, which rises or falls.
func TestFindInLongLists(t *testing.T) {
	var up, down []api.Pair
	for i := range 2000 {
		up = append(up, api.Pair{Key: fmt.Sprintf("%05d", i), Value: fmt.Sprint(i)})
		down = append(down, api.Pair{Key: fmt.Sprintf("%05d", 9999-i), Value: fmt.Sprint(9999 - i)})
	}
	for i := range 2000 {
		mustFind(t, up, fmt.Sprintf("%05d", i), fmt.Sprint(i))
		mustFind(t, down, fmt.Sprintf("%05d", 9999-i), fmt.Sprint(9999-i))
	}
	mustNotFind(t, up, "02000")
	mustNotFind(t, down, "07999")
}
