package msg_test

import (
	"reflect"
	"slices"
	"testing"

	"buttery/api"
	"buttery/msg"
)

// mustGoBothWays asks that a message has these bytes, and that they are read as it was.
func mustGoBothWays(t *testing.T, m api.Msg, b []byte) {
	t.Helper()
	mustDecode(t, mustEncode(t, m, b), m)
}

// P13.1, P13.3: of each Kind, each field in turn set to each of its values, and all others zero.
func TestOneField(t *testing.T) {
	for kind := uint8(firstKind); kind <= lastKind; kind++ {
		mustGoBothWays(t, api.Msg{Kind: kind}, append([]byte{kind}, make([]byte, 32)...))
		for _, x := range singles(kind) {
			mustGoBothWays(t, x.m, x.b)
		}
	}
}

// P13.1, P13.3: of each Kind, all fields set.
func TestAllFields(t *testing.T) {
	for kind := uint8(firstKind); kind <= lastKind; kind++ {
		for _, x := range crowds(kind) {
			mustGoBothWays(t, x.m, x.b)
		}
	}
}

// P13.1: a message all of whose fields are set, and no two alike, with its bytes by hand.
func TestByHand(t *testing.T) {
	m := api.Msg{
		Kind: api.Append, Shard: 1, Epoch: 2, Owner: 3, Req: 4, Client: 5, ID: 6,
		Op:     api.Op{Kind: 7, Key: "key", Value: "val", Old: "old", Had: true},
		Code:   api.ErrBusy,
		Result: api.Result{Kind: 8, Found: true, Value: "res"},
		Grant:  9, Term: 10, Index: 11, PrevTerm: 12, Commit: 13,
		Granted: true,
		Entries: []api.Entry{{Term: 14, Kind: 15, Data: "da", List: []int{16, 17}}, {Term: 18, Kind: 200}},
		List:    []int{-1, -64, -65},
		State:   "state", Part: 19, Last: true,
		Pairs:   []api.Pair{{Key: "p", Value: "q"}, {Key: "", Value: "r"}},
		Lasts:   []api.Last{{Client: 201, ID: 20, Result: api.Result{Kind: 21, Found: true, Value: "s"}}},
		Command: api.Command{Kind: 22, Shard: 23, Store: 24, Epoch: 25},
	}
	b := fromHex(`
		03 02 04 06 08 0A 0C
		07 03 6B 65 79 03 76 61 6C 03 6F 6C 64 01
		7A
		08 01 03 72 65 73
		12 14 16 18 1A
		01
		02  1C 0F 02 64 61 02 20 22  24 C8 01 00 00
		03  01 7F 81 01
		05 73 74 61 74 65 26 01
		02  01 70 01 71  00 01 72
		01  92 03 28 15 01 01 73
		16 2E 30 32`)
	mustGoBothWays(t, m, b)
}

// P13.1: each field that the type has stands in the bytes, in the type's order, which is the
// chapter's: the bytes by hand are those by the type.
func TestBytesByTheType(t *testing.T) {
	if n := reflect.TypeOf(api.Msg{}).NumField(); n != 24 {
		t.Errorf("a message has %d fields", n)
	}
	for _, x := range samples() {
		if b := lay(x.m); string(b) != string(x.b) {
			t.Fatalf("%s: by hand %s, by the type %s", shown(x.m), shown(x.b), shown(b))
		}
		if !alike(x.m, cloned(x.m)) {
			t.Fatalf("%s: %s", shown(x.m), shown(cloned(x.m)))
		}
	}
}

// filled is the message whose State has so many bytes that it has size bytes in all.
func filled(m api.Msg, size int) api.Msg {
	m.State = ""
	m.State = text("s", size-len(lay(m))-1)
	return m
}

// P13.1: whatever stands in the fields, just MaxBody bytes, and one more.
func TestEncodeAtTheBound(t *testing.T) {
	for _, x := range samples() {
		m := filled(x.m, maxBody)
		b := lay(m)
		if len(b) != maxBody {
			t.Fatal(len(b))
		}
		mustEncode(t, m, b)
		m.State += "s"
		mustNotEncode(t, m, api.ErrTooLarge)
		m = filled(x.m, maxBody-1)
		mustEncode(t, m, lay(m))
	}
}

// growth is a message that grows: how much it has of something when it may just be, and how
// many bytes it has then.
type growth struct {
	name       string
	most, size int
	make       func(n int) api.Msg
}

// growing are messages that grow in each thing that can be long.
func growing() []growth {
	return []growth{
		{"State", 8158, 8192, func(n int) api.Msg { return api.Msg{Kind: 5, State: text("s", n)} }},
		{"Op.Key", 8158, 8192, func(n int) api.Msg { return api.Msg{Kind: 5, Op: api.Op{Key: text("s", n)}} }},
		{"Op.Value", 8158, 8192, func(n int) api.Msg { return api.Msg{Kind: 5, Op: api.Op{Value: text("s", n)}} }},
		{"Op.Old", 8158, 8192, func(n int) api.Msg { return api.Msg{Kind: 5, Op: api.Op{Old: text("s", n)}} }},
		{"Result.Value", 8158, 8192, func(n int) api.Msg { return api.Msg{Kind: 5, Result: api.Result{Value: text("s", n)}} }},
		{"Data", 8154, 8192, func(n int) api.Msg { return api.Msg{Kind: 5, Entries: []api.Entry{{Data: text("s", n)}}} }},
		{"Key", 8156, 8192, func(n int) api.Msg { return api.Msg{Kind: 5, Pairs: []api.Pair{{Key: text("s", n)}}} }},
		{"Value", 8156, 8192, func(n int) api.Msg { return api.Msg{Kind: 5, Pairs: []api.Pair{{Value: text("s", n)}}} }},
		{"a Last's Value", 8153, 8192, func(n int) api.Msg {
			return api.Msg{Kind: 5, Lasts: []api.Last{{Result: api.Result{Value: text("s", n)}}}}
		}},
		{"Entries", 2039, 8190, func(n int) api.Msg { return api.Msg{Kind: 5, Entries: make([]api.Entry, n)} }},
		{"an Entry's List", 8154, 8192, func(n int) api.Msg { return api.Msg{Kind: 5, Entries: []api.Entry{{List: make([]int, n)}}} }},
		{"List", 8158, 8192, func(n int) api.Msg { return api.Msg{Kind: 5, List: make([]int, n)} }},
		{"List of five bytes each", 1631, 8189, func(n int) api.Msg { return api.Msg{Kind: 5, List: slices.Repeat([]int{maxCount}, n)} }},
		{"Pairs", 4079, 8192, func(n int) api.Msg { return api.Msg{Kind: 5, Pairs: make([]api.Pair, n)} }},
		{"Lasts", 1631, 8189, func(n int) api.Msg { return api.Msg{Kind: 5, Lasts: make([]api.Last, n)} }},
	}
}

// P13.1: whatever it is of which there is too much.
func TestEncodeTooMuch(t *testing.T) {
	for _, x := range growing() {
		m := x.make(x.most)
		b := mustEncode(t, m, lay(m))
		if len(b) != x.size {
			t.Errorf("%s: %d bytes, want %d", x.name, len(b), x.size)
		}
		mustDecode(t, b, m)
		for _, n := range []int{x.most + 1, x.most + 2, 8191, 8192, 8193, 16384, 100000, 1 << 20} {
			if n <= x.most {
				continue
			}
			mustNotEncode(t, x.make(n), api.ErrTooLarge)
		}
	}
}

// P13.1: what is too much stays so, though what stands behind would have room.
func TestEncodeTooMuchAhead(t *testing.T) {
	m := filled(api.Msg{Kind: 7}, maxBody)
	for _, f := range fields() {
		for _, v := range f.values {
			long := m
			v.set(&long)
			if f.name != "State" && len(v.bytes) > 1 {
				mustNotEncode(t, long, api.ErrTooLarge)
			} else {
				mustEncode(t, long, lay(long))
			}
		}
	}
}

// P13.1: ErrArg of each Kind that is none, ahead of ErrTooLarge; and that of a Kind that is one.
func TestEncodeKinds(t *testing.T) {
	for kind := range 256 {
		short, long := api.Msg{Kind: uint8(kind), Shard: 3}, api.Msg{Kind: uint8(kind), State: text("s", maxBody)}
		many := api.Msg{Kind: uint8(kind), Entries: make([]api.Entry, 100000)}
		if kind >= firstKind && kind <= lastKind {
			mustEncode(t, short, lay(short))
			mustNotEncode(t, long, api.ErrTooLarge)
			mustNotEncode(t, many, api.ErrTooLarge)
			continue
		}
		mustNotEncode(t, short, api.ErrArg)
		mustNotEncode(t, long, api.ErrArg)
		mustNotEncode(t, many, api.ErrArg)
		mustNotEncode(t, api.Msg{Kind: uint8(kind)}, api.ErrArg)
	}
}

// R3: what was told may be changed, its spare room too, without changing the message or a later
// answer.
func TestEncodeTellsNewMemory(t *testing.T) {
	for _, x := range samples() {
		m := cloned(x.m)
		b, c := mustEncode(t, m, x.b), mustEncode(t, m, x.b)
		fill(b, 0xAA)
		if string(c) != string(x.b) || !alike(m, x.m) {
			t.Fatalf("%s: %s, and the bytes told besides %s", shown(x.m), shown(m), shown(c))
		}
		mustEncode(t, m, x.b)
	}
}

// R2, R3: nor does a change of the message change what was told.
func TestEncodeKeepsNothing(t *testing.T) {
	for _, x := range samples() {
		m := cloned(x.m)
		b, err := msg.Encode(m)
		scribble(m)
		if string(b) != string(x.b) || err != api.OK {
			t.Fatalf("%s: %s, want %s", shown(x.m), shown(b), shown(x.b))
		}
	}
}
