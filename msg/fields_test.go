package msg_test

import (
	"bytes"
	"encoding/binary"
	"encoding/hex"
	"math"
	"slices"
	"sync"

	"buttery/api"
)

// field is one of the things that stand one behind the other in a message's bytes, behind the
// Kind: one byte each, 00, where it is zero.
type field struct {
	name   string
	isNum  bool
	values []value
	bad    []string // in hexadecimal: what stands there in no message's bytes, if all behind is zero
}

// value is a value of a field, and its bytes.
type value struct {
	set   func(*api.Msg)
	bytes []byte
}

// with is the field with a value more, whose bytes are told in hexadecimal.
func (f field) with(b string, set func(*api.Msg)) field {
	f.values = append(f.values, value{set, fromHex(b)})
	return f
}

// badCounts are no counts of what a message has: not the fewest bytes, too many, too great.
func badCounts() []string {
	return []string{"80 00", "FF 00", "80 80 00", "80 80 80 80 80 80 80 80 80 02", "FF FF FF FF FF FF FF FF FF FF 01", "FF FF FF FF FF FF FF FF FF 01", "80 80 80 80 08", "FF FF FF FF 07"}
}

// badTexts are no texts, where fewer than 34 bytes stand behind.
func badTexts() []string { return append(badCounts(), "81 00 61", "05 61", "22", "80 40") }

// badNums are no numbers.
func badNums() []string {
	return []string{"80 00", "81 00", "FF 80 00", "FF FF FF FF FF FF FF FF FF 02", "FF FF FF FF FF FF FF FF FF 81 00", "80 80 80 80 80 80 80 80 80 80 01"}
}

// badFlags are no truth values.
func badFlags() []string { return []string{"02", "03", "7F", "80", "80 00", "81 00", "81 01", "FF"} }

// badKinds are no kinds: counts above 255, and what is no count.
func badKinds() []string { return append(badCounts(), "80 02", "81 02", "FF 03", "80 80 04") }

// hexOf are bytes in hexadecimal.
func hexOf(b []byte) string { return hex.EncodeToString(b) }

// least and greatest are the bytes of these numbers.
func least() string    { return hexOf(binary.AppendVarint(nil, math.MinInt)) }
func greatest() string { return hexOf(binary.AppendVarint(nil, math.MaxInt)) }

func numField(name string, at func(*api.Msg) *int) field {
	f := field{name: name, isNum: true, bad: badNums()}
	for _, x := range []struct {
		n int
		b string
	}{
		{0, "00"}, {1, "02"}, {-1, "01"}, {2, "04"}, {70, "8C 01"}, {63, "7E"}, {-64, "7F"}, {64, "80 01"}, {-65, "81 01"},
		{maxCount, "FE FF FF FF 0F"}, {-maxCount, "FD FF FF FF 0F"}, {math.MaxInt, greatest()}, {math.MinInt, least()},
	} {
		f = f.with(x.b, func(m *api.Msg) { *at(m) = x.n })
	}
	return f
}

func kindField(name string, at func(*api.Msg) *uint8) field {
	f := field{name: name, bad: badKinds()}
	for _, x := range []struct {
		k uint8
		b string
	}{{0, "00"}, {1, "01"}, {2, "02"}, {19, "13"}, {20, "14"}, {127, "7F"}, {128, "80 01"}, {255, "FF 01"}} {
		f = f.with(x.b, func(m *api.Msg) { *at(m) = x.k })
	}
	return f
}

func textField(name string, at func(*api.Msg) *string) field {
	f := field{name: name, bad: badTexts()}
	for _, x := range []struct{ s, size string }{
		{"", "00"}, {"a", "01"}, {"b", "01"}, {"\x00", "01"}, {"ab", "02"}, {"\xff\x80\x00", "03"}, {"é∞", "05"},
		{text("k", 127), "7F"}, {text("\xff", 128), "80 01"}, {text("v", 300), "AC 02"},
	} {
		f = f.with(x.size+hexOf([]byte(x.s)), func(m *api.Msg) { *at(m) = x.s })
	}
	return f
}

func flagField(name string, at func(*api.Msg) *bool) field {
	f := field{name: name, bad: badFlags()}
	f = f.with("00", func(m *api.Msg) { *at(m) = false })
	return f.with("01", func(m *api.Msg) { *at(m) = true })
}

// laid is a list, and its bytes.
type laid[T any] struct {
	bytes string
	list  []T
}

// listField is a field that is a list of things, each of which has as many fields as bad has
// lists; these are what stands there in no message's bytes.
func listField[T any](name string, at func(*api.Msg) *[]T, bad [][]string, lists []laid[T]) field {
	f := field{name: name, bad: badCounts()}
	zeros := text("00", len(bad))
	lists = append([]laid[T]{{"00", nil}, {"00", []T{}}}, lists...)
	lists = append(lists, laid[T]{"01" + zeros, make([]T, 1)}, laid[T]{"82 01" + text(zeros, 130), make([]T, 130)})
	for _, x := range lists {
		f = f.with(x.bytes, func(m *api.Msg) { *at(m) = x.list })
	}
	for i, l := range bad {
		for _, b := range l {
			item := zeros[:2*i] + b + zeros[2*i+2:]
			f.bad = append(f.bad, "01"+item, "02"+zeros+item, "02"+item+zeros)
		}
	}
	return f
}

func entries() []laid[api.Entry] {
	return []laid[api.Entry]{
		{"01 02 00 00 00", []api.Entry{{Term: 1}}},
		{"01 01 00 00 00", []api.Entry{{Term: -1}}},
		{"01" + least() + "00 00 00", []api.Entry{{Term: math.MinInt}}},
		{"01" + greatest() + "00 00 00", []api.Entry{{Term: math.MaxInt}}},
		{"01 00 01 00 00", []api.Entry{{Kind: 1}}},
		{"01 00 7F 00 00", []api.Entry{{Kind: 127}}},
		{"01 00 80 01 00 00", []api.Entry{{Kind: 128}}},
		{"01 00 FF 01 00 00", []api.Entry{{Kind: 255}}},
		{"01 00 00 02 61 FF 00", []api.Entry{{Data: "a\xff"}}},
		{"01 00 00 80 01" + text("61", 128) + "00", []api.Entry{{Data: text("a", 128)}}},
		{"01 00 00 00 01 00", []api.Entry{{List: []int{0}}}},
		{"01 00 00 00 01 02", []api.Entry{{List: []int{1}}}},
		{"01 00 00 00 01" + least(), []api.Entry{{List: []int{math.MinInt}}}},
		{"01 00 00 00 01" + greatest(), []api.Entry{{List: []int{math.MaxInt}}}},
		{"01 00 00 00 02 02 01", []api.Entry{{List: []int{1, -1}}}},
		{"01 00 00 00 02 01 02", []api.Entry{{List: []int{-1, 1}}}},
		{"01 00 00 00 82 01" + text("04", 130), []api.Entry{{List: slices.Repeat([]int{2}, 130)}}},
		{"02 02 00 00 00 04 00 00 00", []api.Entry{{Term: 1, List: []int{}}, {Term: 2}}},
		{"02 04 00 00 00 02 00 00 00", []api.Entry{{Term: 2}, {Term: 1}}},
		{"02 00 00 00 01 02 00 00 00 00", []api.Entry{{List: []int{1}}, {}}},
		{"02 00 00 00 00 00 00 00 01 02", []api.Entry{{}, {List: []int{1}}}},
		{"03 06 02 01 63 00 06 03 00 02 02 04 08 01 00 00", []api.Entry{{Term: 3, Kind: 2, Data: "c"}, {Term: 3, Kind: 3, List: []int{1, 2}}, {Term: 4, Kind: 1}}},
	}
}

func numbers() []laid[int] {
	return []laid[int]{
		{"01 02", []int{1}},
		{"01 01", []int{-1}},
		{"01 80 01", []int{64}},
		{"02 02 04", []int{1, 2}},
		{"02 04 02", []int{2, 1}},
		{"02 02 00", []int{1, 0}},
		{"03 00 02 04", []int{0, 1, 2}},
		{"02" + least() + greatest(), []int{math.MinInt, math.MaxInt}},
		{"80 01 01" + text("00", 127), append([]int{-1}, make([]int, 127)...)},
		{"80 01" + text("00", 127) + "01", append(make([]int, 127), -1)},
		{"06 02 04 06 08 0A 80 01", []int{1, 2, 3, 4, 5, 64}},
		{"05 01 03 05 7F 81 01", []int{-1, -2, -3, -64, -65}},
		{"04 FE FF FF FF 0F 00 01 8C 01", []int{maxCount, 0, -1, 70}},
		{"04 FE FF FF FF 0F 00 01 8E 01", []int{maxCount, 0, -1, 71}},
	}
}

func pairs() []laid[api.Pair] {
	return []laid[api.Pair]{
		{"01 01 61 00", []api.Pair{{Key: "a"}}},
		{"01 00 01 61", []api.Pair{{Value: "a"}}},
		{"01 01 61 01 62", []api.Pair{{Key: "a", Value: "b"}}},
		{"01 01 62 01 61", []api.Pair{{Key: "b", Value: "a"}}},
		{"01 02 61 62 00", []api.Pair{{Key: "ab"}}},
		{"01 00 02 00 FF", []api.Pair{{Value: "\x00\xff"}}},
		{"02 01 61 00 01 62 00", []api.Pair{{Key: "a"}, {Key: "b"}}},
		{"02 01 62 00 01 61 00", []api.Pair{{Key: "b"}, {Key: "a"}}},
		{"02 01 61 01 62 01 61 01 62", []api.Pair{{Key: "a", Value: "b"}, {Key: "a", Value: "b"}}},
		{"01 80 01" + text("6B", 128) + "7F" + text("76", 127), []api.Pair{{Key: text("k", 128), Value: text("v", 127)}}},
	}
}

func lasts() []laid[api.Last] {
	done := api.Result{Kind: api.Done, Found: true, Value: "v"}
	return []laid[api.Last]{
		{"01 02 00 00 00 00", []api.Last{{Client: 1}}},
		{"01 01 00 00 00 00", []api.Last{{Client: -1}}},
		{"01" + least() + greatest() + "00 00 00", []api.Last{{Client: math.MinInt, ID: math.MaxInt}}},
		{"01" + greatest() + least() + "00 00 00", []api.Last{{Client: math.MaxInt, ID: math.MinInt}}},
		{"01 00 02 00 00 00", []api.Last{{ID: 1}}},
		{"01 00 00 01 00 00", []api.Last{{Result: api.Result{Kind: 1}}}},
		{"01 00 00 7F 00 00", []api.Last{{Result: api.Result{Kind: 127}}}},
		{"01 00 00 80 01 00 00", []api.Last{{Result: api.Result{Kind: 128}}}},
		{"01 00 00 FF 01 00 00", []api.Last{{Result: api.Result{Kind: 255}}}},
		{"01 00 00 00 01 00", []api.Last{{Result: api.Result{Found: true}}}},
		{"01 00 00 00 00 02 76 00", []api.Last{{Result: api.Result{Value: "v\x00"}}}},
		{"02 92 03 0A 01 01 01 76 94 03 0C 00 00 00", []api.Last{{Client: 201, ID: 5, Result: done}, {Client: 202, ID: 6}}},
		{"02 94 03 0C 00 00 00 92 03 0A 01 01 01 76", []api.Last{{Client: 202, ID: 6}, {Client: 201, ID: 5, Result: done}}},
	}
}

// fields are all fields behind the Kind, in the chapter's order.
var fields = sync.OnceValue(func() []field {
	badLists := append(badCounts(), "01 80 00", "02 00 81 00", "01", "80 40")
	return []field{
		numField("Shard", func(m *api.Msg) *int { return &m.Shard }),
		numField("Epoch", func(m *api.Msg) *int { return &m.Epoch }),
		numField("Owner", func(m *api.Msg) *int { return &m.Owner }),
		numField("Req", func(m *api.Msg) *int { return &m.Req }),
		numField("Client", func(m *api.Msg) *int { return &m.Client }),
		numField("ID", func(m *api.Msg) *int { return &m.ID }),
		kindField("Op.Kind", func(m *api.Msg) *uint8 { return &m.Op.Kind }),
		textField("Op.Key", func(m *api.Msg) *string { return &m.Op.Key }),
		textField("Op.Value", func(m *api.Msg) *string { return &m.Op.Value }),
		textField("Op.Old", func(m *api.Msg) *string { return &m.Op.Old }),
		flagField("Op.Had", func(m *api.Msg) *bool { return &m.Op.Had }),
		numField("Code", func(m *api.Msg) *int { return (*int)(&m.Code) }),
		kindField("Result.Kind", func(m *api.Msg) *uint8 { return &m.Result.Kind }),
		flagField("Result.Found", func(m *api.Msg) *bool { return &m.Result.Found }),
		textField("Result.Value", func(m *api.Msg) *string { return &m.Result.Value }),
		numField("Grant", func(m *api.Msg) *int { return &m.Grant }),
		numField("Term", func(m *api.Msg) *int { return &m.Term }),
		numField("Index", func(m *api.Msg) *int { return &m.Index }),
		numField("PrevTerm", func(m *api.Msg) *int { return &m.PrevTerm }),
		numField("Commit", func(m *api.Msg) *int { return &m.Commit }),
		flagField("Granted", func(m *api.Msg) *bool { return &m.Granted }),
		listField("Entries", func(m *api.Msg) *[]api.Entry { return &m.Entries }, [][]string{badNums(), badKinds(), badTexts(), badLists}, entries()),
		listField("List", func(m *api.Msg) *[]int { return &m.List }, [][]string{badNums()}, numbers()),
		textField("State", func(m *api.Msg) *string { return &m.State }),
		numField("Part", func(m *api.Msg) *int { return &m.Part }),
		flagField("Last", func(m *api.Msg) *bool { return &m.Last }),
		listField("Pairs", func(m *api.Msg) *[]api.Pair { return &m.Pairs }, [][]string{badTexts(), badTexts()}, pairs()),
		listField("Lasts", func(m *api.Msg) *[]api.Last { return &m.Lasts }, [][]string{badNums(), badNums(), badKinds(), badFlags(), badTexts()}, lasts()),
		kindField("Command.Kind", func(m *api.Msg) *uint8 { return &m.Command.Kind }),
		numField("Command.Shard", func(m *api.Msg) *int { return &m.Command.Shard }),
		numField("Command.Store", func(m *api.Msg) *int { return &m.Command.Store }),
		numField("Command.Epoch", func(m *api.Msg) *int { return &m.Command.Epoch }),
	}
})

// bytesOf are the bytes of a message of a kind all of whose fields are zero but one, which has
// these bytes.
func bytesOf(kind byte, place int, b []byte) []byte {
	all := append([]byte{kind}, make([]byte, place)...)
	all = append(all, b...)
	return append(all, make([]byte, len(fields())-place-1)...)
}

// sample is a message, and its bytes, laid by hand.
type sample struct {
	m      api.Msg
	b      []byte
	pieces [][]byte // the bytes of each field
}

// with is the sample's bytes with others in the place of a field's.
func (x sample) with(place int, b []byte) []byte {
	pieces := slices.Clone(x.pieces)
	pieces[place] = b
	return append([]byte{x.b[0]}, bytes.Join(pieces, nil)...)
}

// singles are messages of a kind: of each field in turn each value, and all others zero.
func singles(kind uint8) []sample {
	var l []sample
	for place, f := range fields() {
		for _, v := range f.values {
			m := api.Msg{Kind: kind}
			v.set(&m)
			l = append(l, sample{m: m, b: bytesOf(kind, place, v.bytes)})
		}
	}
	return l
}

// crowds are messages of a kind of which all fields are set: together they have each value of
// each field.
func crowds(kind uint8) []sample {
	var l []sample
	for i := range 30 {
		x := sample{m: api.Msg{Kind: kind}, b: []byte{kind}}
		for place, f := range fields() {
			v := f.values[(i+place)%len(f.values)]
			v.set(&x.m)
			x.b = append(x.b, v.bytes...)
			x.pieces = append(x.pieces, v.bytes)
		}
		l = append(l, x)
	}
	return l
}

// samples are messages of all kinds.
var samples = sync.OnceValue(func() []sample {
	l := singles(8)
	for kind := range uint8(lastKind) {
		l = append(l, crowds(kind+1)...)
	}
	return l
})
