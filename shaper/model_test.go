package shaper

import (
	"math"
	"math/bits"
	"slices"
	"strconv"
	"testing"

	"pacemaker/api"
)

const (
	most = api.MaxU64
	last = math.MaxUint32 // the greatest ID
)

func in(flow, id uint32, n uint64) api.Op {
	return api.Op{Kind: api.OpEnqueue, Flow: flow, ID: id, Len: n}
}

func tick(n uint64) api.Op { return api.Op{Kind: api.OpTick, Ticks: n} }

func junk(n uint64) api.Op { return api.Op{Kind: api.OpJunk, Len: n} }

var (
	out   = api.Op{Kind: api.OpDequeue}
	stats = api.Op{Kind: api.OpStats}
	torn  = api.Op{Kind: api.OpTorn}
)

func packet(flow, id uint32, n uint64) api.Packet {
	return api.Packet{Flow: flow, ID: id, Len: n}
}

// came is the reply to a packet that waits now.
func came(flow, id uint32, n, rank uint64) api.Reply {
	return api.Reply{Kind: api.OpEnqueue, Packet: packet(flow, id, n), Rank: rank}
}

// shut is the reply to a packet that was refused.
func shut(flow, id uint32, n uint64, err api.Errno) api.Reply {
	return api.Reply{Kind: api.OpEnqueue, Packet: packet(flow, id, n), Code: err}
}

// went is the reply to a packet that left.
func went(flow, id uint32, n, rank uint64) api.Reply {
	return api.Reply{Kind: api.OpDequeue, Packet: packet(flow, id, n), Rank: rank}
}

// stays is the reply if none left.
func stays(err api.Errno) api.Reply {
	return api.Reply{Kind: api.OpDequeue, Code: err}
}

var (
	ticked  = api.Reply{Kind: api.OpTick}
	isJunk  = api.Reply{Kind: api.OpJunk, Code: api.ErrBad}
	wasTorn = api.Reply{Kind: api.OpTorn, Code: api.ErrShort}
)

// config is a configuration in which every limit is soon reached.
func config() api.Config {
	return api.Config{
		Rank: api.RankSTFQ, Back: api.BackHeap, Levels: 1, Queues: 2, Packets: 8, Bytes: 60, Share: 1, MTU: 10, Rate: 2, Burst: 12,
		Flows: []api.Flow{
			{ID: 1, Cost: 2, Budget: 9, Size: 100, Cap: 30},
			{ID: 2, Cost: 1, Budget: 5, Size: 20, Cap: 40},
			{ID: 7, Cap: 60},
		},
	}
}

// least has the least number of everything.
func least() api.Config {
	return api.Config{Rank: 1, Back: 1, Levels: 1, Queues: 1, Packets: 1, Bytes: 1, MTU: 1, Rate: 1, Burst: 1, Flows: []api.Flow{{}}}
}

// greatest has the greatest number of everything, and the most flows.
func greatest() api.Config {
	c := api.Config{Rank: 3, Back: 3, Levels: 3, Queues: 32, Packets: 4096, Bytes: most >> 16, Share: 16, MTU: 65535, Rate: most, Burst: most}
	for i := range uint32(64) {
		c.Flows = append(c.Flows, api.Flow{ID: last - i, Cost: most, Budget: most, Size: most, Cap: most})
	}
	return c
}

// backs returns c with each kind of backend.
func backs(c api.Config) []api.Config {
	var l []api.Config
	add := func(back, levels, queues int) {
		c.Back, c.Levels, c.Queues = back, levels, queues
		l = append(l, c)
	}
	add(api.BackHeap, 1, 2)
	for levels := range 3 {
		add(api.BackCalendar, levels+1, 2)
	}
	for _, queues := range []int{1, 2, 32} {
		add(api.BackQueues, 1, queues)
	}
	return l
}

// inOrder returns c with each backend in which packets wait in order.
func inOrder(c api.Config) []api.Config { return backs(c)[:4] }

// inQueues returns c with each number of queues.
func inQueues(c api.Config) []api.Config { return backs(c)[4:] }

// name tells the kinds of a configuration.
func name(c api.Config) string {
	s := []string{"stfq", "edf", "srs"}[c.Rank-1]
	switch c.Back {
	case api.BackHeap:
		return s + " heap"
	case api.BackCalendar:
		return s + " calendar " + strconv.Itoa(c.Levels)
	}
	return s + " queues " + strconv.Itoa(c.Queues)
}

// each does a test with c with each kind of ranks and of backend.
func each(t *testing.T, c api.Config, test func(t *testing.T, c api.Config)) {
	for rank := api.RankSTFQ; rank <= api.RankSRS; rank++ {
		c.Rank = rank
		for _, d := range backs(c) {
			t.Run(name(d), func(t *testing.T) { test(t, d) })
		}
	}
}

// random returns a function whose result is less than n.
func random(seed uint64) func(n uint64) uint64 {
	return func(n uint64) uint64 {
		seed = seed*6364136223846793005 + 1442695040888963407
		return seed >> 33 % n
	}
}

// model does what a shaper should, by the definitions of all layers, with lists
// alone.
type model struct {
	c  api.Config
	st api.State
}

func newModel(c api.Config) *model {
	c.Flows = slices.Clone(c.Flows)
	st := api.State{Tokens: c.Burst, Tags: make([]uint64, len(c.Flows)), Queues: make([][]api.Ranked, 1)}
	if c.Rank == api.RankSRS {
		for i, f := range c.Flows {
			st.Tags[i] = f.Size
		}
	}
	if c.Back == api.BackQueues {
		st.Bounds = make([]uint64, c.Queues)
		st.Queues = make([][]api.Ranked, c.Queues)
	}
	return &model{c, st}
}

// loaded is the model of a shaper that was loaded with st.
func loaded(c api.Config, st api.State) *model {
	m := newModel(c)
	m.st = copied(st)
	return m
}

// capped returns a + b * c, or the greatest number if that is less.
func capped(a, b, c uint64) uint64 {
	high, low := bits.Mul64(b, c)
	low, carry := bits.Add64(low, a, 0)
	if high > 0 || carry > 0 {
		return most
	}
	return low
}

// do does what Do should.
func (m *model) do(x api.Op) api.Reply {
	r := api.Reply{Kind: x.Kind}
	switch x.Kind {
	case api.OpEnqueue:
		r.Packet = packet(x.Flow, x.ID, x.Len)
		if r.Code = m.may(r.Packet); r.Code == api.OK {
			r.Rank = m.rank(r.Packet)
			m.push(r.Rank, r.Packet)
		}
	case api.OpDequeue:
		var head api.Ranked
		if head, r.Code = m.pop(); r.Code == api.OK {
			r.Packet, r.Rank = head.Packet, head.Rank
		}
		return r
	case api.OpTick:
		m.st.Now = capped(m.st.Now, 1, x.Ticks)
		m.st.Tokens = min(capped(m.st.Tokens, m.c.Rate, x.Ticks), m.c.Burst)
	case api.OpStats:
		r.Stats = api.Stats{Now: m.st.Now, Tokens: m.st.Tokens, Refused: m.st.Refused}
		for _, l := range m.st.Queues {
			for _, y := range l {
				r.Stats.Packets++
				r.Stats.Bytes += y.Packet.Len
			}
		}
	case api.OpTorn:
		r.Code = api.ErrShort
	default:
		r.Kind, r.Code = api.OpJunk, api.ErrBad
	}
	if r.Code != api.OK {
		m.st.Refused[r.Code] = capped(m.st.Refused[r.Code], 1, 1)
	}
	return r
}

// may returns why a packet is not admitted (17.2).
func (m *model) may(p api.Packet) api.Errno {
	i := slices.IndexFunc(m.c.Flows, func(f api.Flow) bool { return f.ID == p.Flow })
	packets, bytes, own := 0, uint64(0), uint64(0)
	for _, l := range m.st.Queues {
		for _, y := range l {
			packets++
			bytes += y.Packet.Len
			if y.Packet.Flow == p.Flow {
				own += y.Packet.Len
			}
		}
	}
	switch {
	case p.Len < 1 || p.Len > m.c.MTU:
		return api.ErrLen
	case i < 0:
		return api.ErrFlow
	case packets == m.c.Packets:
		return api.ErrPackets
	case m.c.Bytes-bytes < p.Len:
		return api.ErrBytes
	case own > m.c.Flows[i].Cap || m.c.Flows[i].Cap-own < p.Len:
		return api.ErrOwn
	case (m.c.Bytes-bytes)<<m.c.Share <= own:
		return api.ErrShare
	}
	return api.OK
}

// rank returns the rank of a packet, and changes the tag of its flow (16).
func (m *model) rank(p api.Packet) uint64 {
	i := slices.IndexFunc(m.c.Flows, func(f api.Flow) bool { return f.ID == p.Flow })
	f, tag := m.c.Flows[i], &m.st.Tags[i]
	rank := *tag
	switch m.c.Rank {
	case api.RankSTFQ:
		rank = max(rank, m.st.Virtual)
		*tag = capped(rank, f.Cost, p.Len)
	case api.RankEDF:
		rank = capped(m.st.Now, 1, f.Budget)
	case api.RankSRS:
		*tag -= min(*tag, p.Len)
	}
	return rank
}

// push lets a packet wait: in a list in order, or in one of the queues (12.2).
func (m *model) push(rank uint64, p api.Packet) {
	x := api.Ranked{Rank: rank, Packet: p}
	if m.c.Back != api.BackQueues {
		l := m.st.Queues[0]
		i := len(l)
		for i > 0 && l[i-1].Rank > rank {
			i--
		}
		m.st.Queues[0] = slices.Insert(l, i, x)
		return
	}
	for i := m.c.Queues - 1; i >= 0; i-- {
		if m.st.Bounds[i] <= rank {
			m.st.Bounds[i] = rank
			m.st.Queues[i] = append(m.st.Queues[i], x)
			return
		}
	}
	by := m.st.Bounds[0] - rank
	for i := range m.st.Bounds {
		m.st.Bounds[i] -= by
	}
	m.st.Queues[0] = append(m.st.Queues[0], x)
}

// head returns the list that the head is in, or why it may not leave.
func (m *model) head() (int, api.Errno) {
	i := slices.IndexFunc(m.st.Queues, func(l []api.Ranked) bool { return len(l) > 0 })
	if i < 0 {
		return 0, api.ErrEmpty
	}
	if m.st.Queues[i][0].Packet.Len > m.st.Tokens {
		return 0, api.ErrNotYet
	}
	return i, api.OK
}

// pop lets the head leave.
func (m *model) pop() (api.Ranked, api.Errno) {
	i, err := m.head()
	if err != api.OK {
		return api.Ranked{}, err
	}
	x := m.st.Queues[i][0]
	m.st.Queues[i] = m.st.Queues[i][1:]
	m.st.Tokens -= x.Packet.Len
	if m.c.Rank == api.RankSTFQ {
		m.st.Virtual = x.Rank
	}
	return x, api.OK
}

// copied returns a state that shares no memory with st.
func copied(st api.State) api.State {
	st.Tags, st.Bounds = slices.Clone(st.Tags), slices.Clone(st.Bounds)
	st.Queues = slices.Clone(st.Queues)
	for i, l := range st.Queues {
		st.Queues[i] = slices.Clone(l)
	}
	return st
}

// same tells whether two states are the same; nil and empty lists are.
func same(a, b api.State) bool {
	return a.Now == b.Now && a.Tokens == b.Tokens && a.Virtual == b.Virtual && a.Refused == b.Refused &&
		slices.Equal(a.Tags, b.Tags) && slices.Equal(a.Bounds, b.Bounds) && slices.EqualFunc(a.Queues, b.Queues, slices.Equal)
}

// pair is a shaper and what it should do.
type pair struct {
	*testing.T
	s *Shaper
	m *model
}

// newPair makes a shaper, and its model.
func newPair(t *testing.T, c api.Config) *pair {
	t.Helper()
	p := &pair{t, made(t, c), newModel(c)}
	p.check()
	return p
}

// made makes a shaper.
func made(t *testing.T, c api.Config) *Shaper {
	t.Helper()
	s, err := New(c)
	if s == nil || err != api.OK {
		t.Fatalf("New(%v) is %v, %d", c, s, err)
	}
	return s
}

// resumed makes a shaper of a state.
func resumed(t *testing.T, c api.Config, st api.State) *Shaper {
	t.Helper()
	s, err := Load(c, st)
	if s == nil || err != api.OK {
		t.Fatalf("Load(%v, %v) is %v, %d", c, st, s, err)
	}
	return s
}

// loadPair makes a shaper of a state, and its model.
func loadPair(t *testing.T, c api.Config, st api.State) *pair {
	t.Helper()
	p := &pair{t, resumed(t, c, st), loaded(c, st)}
	p.check()
	return p
}

// check compares everything that there is to see.
func (p *pair) check() {
	p.Helper()
	if r, want := p.s.Do(stats), p.m.do(stats); r != want {
		p.Fatalf("OpStats is %v, not %v", r, want)
	}
	if st := p.s.State(); !same(st, p.m.st) {
		p.Fatalf("State is %v, not %v", st, p.m.st)
	}
}

// do executes an operation by both, and returns the reply.
func (p *pair) do(x api.Op) api.Reply {
	p.Helper()
	want := p.m.do(x)
	if r := p.s.Do(x); r != want {
		p.Fatalf("%v is %v, not %v; the state was %v", x, r, want, p.m.st)
	}
	p.check()
	return want
}

// gives executes an operation of which the reply is known.
func (p *pair) gives(x api.Op, want api.Reply) {
	p.Helper()
	if r := p.do(x); r != want {
		p.Fatalf("%v is %v, not %v", x, r, want)
	}
}

// anyOp returns an operation, most often one that is not refused by c.
func anyOp(c api.Config, next func(n uint64) uint64) api.Op {
	id := uint32(next(1 << 31))
	switch next(20) {
	case 0:
		return stats
	case 1:
		return []api.Op{torn, junk(next(256)), {Kind: 6 + int(next(9)), Flow: 1, ID: 2, Len: 3, Ticks: 4}, {Kind: -1 - int(next(9)), Len: 1}, tick(0)}[next(5)]
	case 2:
		return in(id, id, 1+next(c.MTU))
	case 3:
		return in(c.Flows[next(uint64(len(c.Flows)))].ID, id, []uint64{0, c.MTU, c.MTU + 1, most}[next(4)])
	case 4, 5, 6, 7:
		return tick(next(4))
	case 8, 9, 10, 11, 12:
		return out
	}
	return in(c.Flows[next(uint64(len(c.Flows)))].ID, id, 1+next(c.MTU))
}

// anyOps returns n such operations. More packets come than may leave, but for a
// while now and then in which none come.
func anyOps(c api.Config, seed uint64, n int) []api.Op {
	next := random(seed)
	l := make([]api.Op, n)
	for i := range l {
		l[i] = anyOp(c, next)
		if l[i].Kind == api.OpEnqueue && i/40%3 == 1 {
			l[i] = []api.Op{tick(9), out}[next(2)]
		}
	}
	return l
}

// replies returns those of a new shaper.
func replies(t *testing.T, c api.Config, l []api.Op) []api.Reply {
	t.Helper()
	return made(t, c).Run(l)
}
