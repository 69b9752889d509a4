package snap

import (
	"pacemaker/api"
	"pacemaker/wire"
)

// writer collects the fields of a snapshot.
type writer struct {
	fields []api.Field
}

// addText adds a string.
func (w *writer) addText(s string) {
	w.fields = append(w.fields, api.Field{Kind: wire.Text, S: s})
}

// addNumbers adds numbers of one kind.
func (w *writer) addNumbers(kind int, numbers ...uint64) {
	for _, n := range numbers {
		w.fields = append(w.fields, api.Field{Kind: kind, N: n})
	}
}

// addCount adds how many elements follow.
func (w *writer) addCount(n int) {
	w.addNumbers(wire.Var, uint64(n))
}

// addList adds a list of numbers.
func (w *writer) addList(l []uint64) {
	w.addCount(len(l))
	w.addNumbers(wire.Var, l...)
}

// addState adds everything that a shaper stores.
func (w *writer) addState(st api.State) {
	w.addNumbers(wire.Var, st.Now, st.Tokens, st.Virtual)
	w.addList(st.Refused[:])
	w.addList(st.Tags)
	w.addList(st.Bounds)
	w.addCount(len(st.Queues))
	for _, l := range st.Queues {
		w.addQueue(l)
	}
}

// addQueue adds packets that wait one after the other.
func (w *writer) addQueue(l []api.Ranked) {
	w.addCount(len(l))
	for _, x := range l {
		w.addNumbers(wire.Var, x.Rank)
		w.addNumbers(wire.Word, uint64(x.Packet.Flow), uint64(x.Packet.ID))
		w.addNumbers(wire.Var, x.Packet.Len)
	}
}

// reader reads the fields of a snapshot. It panics with an error where they are
// not those of one.
type reader struct {
	rest string // what was not read yet
}

// field reads a field of this kind.
func (r *reader) field(kind int) api.Field {
	l, n, err := wire.Take(r.rest, kind)
	if err != api.OK {
		panic(api.ErrForm)
	}
	r.rest = r.rest[n:]
	return l[0]
}

// text reads a string.
func (r *reader) text() string {
	return r.field(wire.Text).S
}

// number reads a number.
func (r *reader) number() uint64 {
	return r.field(wire.Var).N
}

// word reads a number of 32 bits.
func (r *reader) word() uint32 {
	return uint32(r.field(wire.Word).N)
}

// count reads how many elements follow.
func (r *reader) count() int {
	n := r.number()
	// Each of them has at least one byte. A number that is greater than what is
	// left may not fit into an int either.
	if n > uint64(len(r.rest)) {
		panic(api.ErrForm)
	}
	return int(n)
}

// list reads a list of numbers.
func (r *reader) list() []uint64 {
	var l []uint64
	for range r.count() {
		l = append(l, r.number())
	}
	return l
}

// refused reads a number for each error.
func (r *reader) refused() [api.Errnos]uint64 {
	var all [api.Errnos]uint64
	if r.count() != len(all) {
		panic(api.ErrForm)
	}
	for i := range all {
		all[i] = r.number()
	}
	return all
}

// state reads everything that a shaper stores.
func (r *reader) state() api.State {
	return api.State{
		Now:     r.number(),
		Tokens:  r.number(),
		Virtual: r.number(),
		Refused: r.refused(),
		Tags:    r.list(),
		Bounds:  r.list(),
		Queues:  r.queues(),
	}
}

// queues reads lists of packets.
func (r *reader) queues() [][]api.Ranked {
	var l [][]api.Ranked
	for range r.count() {
		l = append(l, r.queue())
	}
	return l
}

// queue reads packets that wait one after the other.
func (r *reader) queue() []api.Ranked {
	var l []api.Ranked
	for range r.count() {
		l = append(l, r.ranked())
	}
	return l
}

// ranked reads a packet and its rank.
func (r *reader) ranked() api.Ranked {
	return api.Ranked{
		Rank:   r.number(),
		Packet: api.Packet{Flow: r.word(), ID: r.word(), Len: r.number()},
	}
}

// end is where nothing is left.
func (r *reader) end() {
	if r.rest != "" {
		panic(api.ErrForm)
	}
}
