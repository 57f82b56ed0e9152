package kv

import (
	"buttery/api"
	"buttery/btree"
	"buttery/node"
)

// name is what a pair is found by.
type name struct {
	space int
	key   string
}

// inTree is the key under which the tree has a pair: so the pairs of a space follow one
// another, by rising keys.
func (n name) inTree() string { return string([]byte{byte(n.space)}) + n.key }

// endInTree is the key in the tree at which a range of a space ends: where that one has no
// end, it ends where the next space begins; the last one at the tree's end.
func endInTree(space int, to string) string {
	switch {
	case to != "":
		return name{space, to}.inTree()
	case space < spaces-1:
		return name{space + 1, ""}.inTree()
	}
	return ""
}

// longPages is in how many long pages a value stands.
func longPages(value string) int {
	if len(value) <= node.MaxInline {
		return 0
	}
	return (len(value) + btree.Data - 1) / btree.Data
}

// may says whether a change's value may be.
func (c Change) may() bool {
	if c.Gone {
		return c.Value == ""
	}
	return len(c.Value) <= btree.MaxValue
}

// refuseBatch says why a batch can't be done, wherever, if so.
func (k *KV) refuseBatch(l []Change) api.Errno {
	if k == nil {
		return api.ErrNil
	}
	for _, c := range l {
		if err := k.refuse(c.Space, c.Key); err != api.OK {
			return err
		}
		if !c.may() {
			return api.ErrArg
		}
	}
	return api.OK
}

// follow tells a batch's changes one by one, each with the value that its key has by then
// (empty, if it has none); none of them is done.
func (k *KV) follow(l []Change, tell func(c Change, was string)) api.Errno {
	done := map[name]Change{} // the last one of each key
	for _, c := range l {
		n := name{c.Space, c.Key}
		last, ok := done[n]
		was := last.Value
		if !ok {
			var err api.Errno
			if was, _, err = k.tree.Get(n.inTree()); err != api.OK {
				return err
			}
		}
		tell(c, was)
		done[n] = c
	}
	return api.OK
}

// change changes the tree, till it answers an error.
func (k *KV) change(l []Change) api.Errno {
	for _, c := range l {
		if err := k.changeOne(c); err != api.OK {
			return err
		}
	}
	return api.OK
}

// changeOne does one change to the tree.
func (k *KV) changeOne(c Change) api.Errno {
	key := name{c.Space, c.Key}.inTree()
	if c.Gone {
		_, err := k.tree.Del(key)
		return err
	}
	return k.tree.Put(key, c.Value)
}
