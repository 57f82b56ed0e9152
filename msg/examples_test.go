package msg_test

import (
	"testing"

	"buttery/api"
	"buttery/msg"
)

// The chapter's first example.
func TestFirstExample(t *testing.T) {
	m := api.Msg{Kind: 8, Shard: 2}
	b := mustEncode(t, m, append([]byte{0x08, 0x04}, make([]byte, 31)...))
	mustDecode(t, b, m)
	mustNotDecode(t, "no bytes", nil)
	mustNotDecode(t, "00", []byte{0})
	mustNotDecode(t, "14 and zeros", append([]byte{0x14}, make([]byte, 32)...))
	mustNotDecode(t, "without its last byte", b[:len(b)-1])
	mustNotDecode(t, "a byte more", append(b, 0))
}

// The chapter's second example.
func TestSecondExample(t *testing.T) {
	mustNotEncode(t, api.Msg{Kind: 0}, api.ErrArg)
	mustNotEncode(t, api.Msg{Kind: api.Snap, State: text("s", 8192)}, api.ErrTooLarge)
}

// The limits are those of the document.
func TestLimits(t *testing.T) {
	if api.VoteAsk != firstKind || api.HandTell != lastKind || api.MaxBody != maxBody || api.MaxCount != maxCount {
		t.Error(api.VoteAsk, api.HandTell, api.MaxBody, api.MaxCount)
	}
}

// The example of README.md.
func TestExampleOfReadme(t *testing.T) {
	m := api.Msg{Kind: api.Write, Shard: 3, Epoch: 1, Client: 201, ID: 5, Op: api.Op{Kind: api.Put, Key: "k", Value: "1"}}
	b, err := msg.Encode(m)
	if len(b) != 36 || err != api.OK {
		t.Error(len(b), err)
	}
	n, err := msg.Decode(b)
	if !msg.Same(m, n) || err != api.OK {
		t.Error(shown(n), err)
	}
	if n, err := msg.Decode(b[1:]); !msg.Same(n, api.Msg{}) || err != api.ErrForm {
		t.Error(shown(n), err)
	}
	twin := msg.Twin(api.Msg{Kind: api.Append, List: []int{1, 2}})
	twin.List[0] = 3
	if msg.Same(twin, api.Msg{Kind: api.Append, List: []int{1, 2}}) {
		t.Error(shown(twin))
	}
}
