package msg

import "buttery/api"

// pass goes over fields, and writes them or reads them. A writer changes nothing of what it
// is handed.
type pass interface {
	kind(k *uint8)
	num(n *int)
	text(s *string)
	flag(v *bool)
	// many is handed how many a list has, and answers how many it is to have.
	many(n int) int
	// stopped says whether it goes on no more.
	stopped() bool
}

// message passes over a message. Writers and readers go by this one order of fields, so that
// none can leave the other.
func message(p pass, m *api.Msg) {
	p.kind(&m.Kind)
	nums(p, &m.Shard, &m.Epoch, &m.Owner, &m.Req, &m.Client, &m.ID)
	op(p, &m.Op)
	errno(p, &m.Code)
	result(p, &m.Result)
	nums(p, &m.Grant, &m.Term, &m.Index, &m.PrevTerm, &m.Commit)
	p.flag(&m.Granted)
	list(p, &m.Entries, func(e *api.Entry) { entry(p, e) })
	list(p, &m.List, p.num)
	p.text(&m.State)
	p.num(&m.Part)
	p.flag(&m.Last)
	list(p, &m.Pairs, func(x *api.Pair) { texts(p, &x.Key, &x.Value) })
	list(p, &m.Lasts, func(x *api.Last) {
		nums(p, &x.Client, &x.ID)
		result(p, &x.Result)
	})
	command(p, &m.Command)
}

// op passes over an operation.
func op(p pass, o *api.Op) {
	p.kind(&o.Kind)
	texts(p, &o.Key, &o.Value, &o.Old)
	p.flag(&o.Had)
}

// errno passes over an error's number.
func errno(p pass, e *api.Errno) {
	n := int(*e)
	p.num(&n)
	*e = api.Errno(n)
}

// result passes over a result.
func result(p pass, r *api.Result) {
	p.kind(&r.Kind)
	p.flag(&r.Found)
	p.text(&r.Value)
}

// entry passes over a log's entry.
func entry(p pass, e *api.Entry) {
	p.num(&e.Term)
	p.kind(&e.Kind)
	p.text(&e.Data)
	list(p, &e.List, p.num)
}

// command passes over a command of the configuration.
func command(p pass, c *api.Command) {
	p.kind(&c.Kind)
	nums(p, &c.Shard, &c.Store, &c.Epoch)
}

// nums passes over numbers.
func nums(p pass, l ...*int) {
	for _, n := range l {
		p.num(n)
	}
}

// texts passes over texts.
func texts(p pass, l ...*string) {
	for _, s := range l {
		p.text(s)
	}
}

// list passes over a list, each thing of which one passes over. A list that is read begins
// empty, and grows thing by thing: how many it is said to have is not to be believed till
// they have come.
func list[T any](p pass, l *[]T, one func(*T)) {
	many := p.many(len(*l))
	for i := 0; i < many && !p.stopped(); i++ {
		if i == len(*l) {
			var none T
			*l = append(*l, none)
		}
		one(&(*l)[i])
	}
}
