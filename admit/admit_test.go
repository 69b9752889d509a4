package admit

import (
	"math"
	"math/big"
	"slices"
	"testing"

	"pacemaker/api"
)

const (
	most = api.MaxU64
	last = math.MaxUint32 // the greatest ID
)

// config returns a configuration with flows with these caps, and the IDs 1, 2
// and so on.
func config(packets int, bytes uint64, share int, mtu uint64, caps ...uint64) api.Config {
	c := api.Config{Packets: packets, Bytes: bytes, Share: share, MTU: mtu}
	for i, most := range caps {
		c.Flows = append(c.Flows, api.Flow{ID: uint32(i + 1), Cap: most})
	}
	return c
}

// count returns n flows with different IDs.
func count(n int) []api.Flow {
	var l []api.Flow
	for i := range n {
		l = append(l, api.Flow{ID: uint32(i) * 0x9E3779B1, Cap: uint64(100 * i)})
	}
	return l
}

// lists are the lengths of all packets of a flow that came in and went out.
type lists struct {
	came, went []uint64
}

// model is what a gate should know.
type model struct {
	c     api.Config
	flows map[uint32]*lists
}

func newModel(c api.Config) *model {
	c.Flows = slices.Clone(c.Flows)
	m := &model{c, map[uint32]*lists{}}
	for _, f := range c.Flows {
		m.flows[f.ID] = &lists{}
	}
	return m
}

// own counts what waits of a flow.
func (m *model) own(id uint32) (int, uint64) {
	var bytes uint64
	l := m.flows[id]
	if l == nil {
		return 0, 0
	}
	for _, n := range l.came {
		bytes += n
	}
	for _, n := range l.went {
		bytes -= n
	}
	return len(l.came) - len(l.went), bytes
}

// total counts what waits of all flows.
func (m *model) total() (int, uint64) {
	var packets int
	var bytes uint64
	for _, f := range m.c.Flows {
		p, b := m.own(f.ID)
		packets += p
		bytes += b
	}
	return packets, bytes
}

// may does what May should, by the definition, and what Lay refuses if share is
// not to be looked at.
func (m *model) may(id uint32, n uint64, share bool) api.Errno {
	if n == 0 || n > m.c.MTU {
		return api.ErrLen
	}
	i := slices.IndexFunc(m.c.Flows, func(f api.Flow) bool { return f.ID == id })
	if i < 0 {
		return api.ErrFlow
	}
	packets, total := m.total()
	_, own := m.own(id)
	if packets == m.c.Packets {
		return api.ErrPackets
	}
	if greater(total, n, m.c.Bytes) {
		return api.ErrBytes
	}
	if greater(own, n, m.c.Flows[i].Cap) {
		return api.ErrOwn
	}
	left := new(big.Int).SetUint64(m.c.Bytes)
	left.Sub(left, new(big.Int).SetUint64(total))
	for range m.c.Share {
		left.Add(left, left)
	}
	if share && new(big.Int).SetUint64(own).Cmp(left) >= 0 {
		return api.ErrShare
	}
	return api.OK
}

// greater tells whether a + b is greater than c.
func greater(a, b, c uint64) bool {
	sum := new(big.Int).SetUint64(a)
	return sum.Add(sum, new(big.Int).SetUint64(b)).Cmp(new(big.Int).SetUint64(c)) > 0
}

// pair is a gate and what it should know.
type pair struct {
	*testing.T
	g *Gate
	m *model
}

// newPair makes a gate, and what it should know.
func newPair(t *testing.T, c api.Config) *pair {
	t.Helper()
	m := newModel(c)
	if err := Check(c); err != api.OK {
		t.Fatalf("Check is %d of %+v", err, c)
	}
	g, err := New(c)
	if g == nil || err != api.OK {
		t.Fatalf("New is %v, %d of %+v", g, err, c)
	}
	p := &pair{t, g, m}
	p.check()
	return p
}

// may asks both whether a packet may come in.
func (p *pair) may(id uint32, n uint64) api.Errno {
	p.Helper()
	want := p.m.may(id, n, true)
	if err := p.g.May(id, n); err != want {
		p.Fatalf("May(%d, %d) is %d, not %d, with %+v", id, n, err, want, p.m)
	}
	return want
}

// in lets a packet come into both, if it may.
func (p *pair) in(id uint32, n uint64) api.Errno {
	p.Helper()
	p.may(id, n)
	want := p.m.may(id, n, true)
	if err := p.g.In(id, n); err != want {
		p.Fatalf("In(%d, %d) is %d, not %d, with %+v", id, n, err, want, p.m)
	}
	p.came(id, n, want)
	return want
}

// lay lets a packet come into both, if there is room.
func (p *pair) lay(id uint32, n uint64) api.Errno {
	p.Helper()
	want := p.m.may(id, n, false)
	if err := p.g.Lay(id, n); err != want {
		p.Fatalf("Lay(%d, %d) is %d, not %d, with %+v", id, n, err, want, p.m)
	}
	p.came(id, n, want)
	return want
}

func (p *pair) came(id uint32, n uint64, err api.Errno) {
	p.Helper()
	if err == api.OK {
		l := p.m.flows[id]
		l.came = append(l.came, n)
	}
	p.count(id)
}

// out lets a packet go out of both.
func (p *pair) out(id uint32, n uint64) api.Errno {
	p.Helper()
	want := api.ErrFlow
	if l := p.m.flows[id]; l != nil {
		want = api.ErrState
		if packets, bytes := p.m.own(id); packets > 0 && bytes >= n {
			l.went = append(l.went, n)
			want = api.OK
		}
	}
	if err := p.g.Out(id, n); err != want {
		p.Fatalf("Out(%d, %d) is %d, not %d, with %+v", id, n, err, want, p.m)
	}
	p.count(id)
	return want
}

// count tells whether a gate counts what waits as it should: of a flow, and in
// total (17.3); and whether that is no more than may wait (17.4).
func (p *pair) count(id uint32) {
	p.Helper()
	packets, bytes := p.m.own(id)
	if n, b := p.g.Own(id); n != packets || b != bytes {
		p.Fatalf("Own(%d) is %d, %d, not %d, %d", id, n, b, packets, bytes)
	}
	for _, f := range p.m.c.Flows {
		if f.ID == id && bytes > f.Cap {
			p.Fatalf("%d bytes of flow %d wait", bytes, id)
		}
	}
	packets, bytes = p.m.total()
	if n, b := p.g.Total(); n != packets || b != bytes {
		p.Fatalf("Total is %d, %d, not %d, %d", n, b, packets, bytes)
	}
	if packets > p.m.c.Packets || bytes > p.m.c.Bytes {
		p.Fatalf("%d packets and %d bytes wait", packets, bytes)
	}
}

// ids returns those of all flows, and others.
func (p *pair) ids() []uint32 {
	l := []uint32{0, 77, last - 1, last}
	for _, f := range p.m.c.Flows {
		l = append(l, f.ID, f.ID+1)
	}
	return l
}

// check tells whether a gate answers what it should, of all flows and of many
// lengths.
func (p *pair) check() {
	p.Helper()
	for _, id := range p.ids() {
		p.count(id)
		for _, n := range []uint64{0, 1, 2, p.m.c.MTU / 2, p.m.c.MTU - 1, p.m.c.MTU, p.m.c.MTU + 1, 1 << 32, 1<<32 + 1, most} {
			p.may(id, n)
		}
		_, total := p.m.total()
		p.may(id, p.m.c.Bytes-total)
		p.may(id, p.m.c.Bytes-total+1)
	}
}

// answers returns all that a gate answers of these flows and of some lengths.
func answers(g *Gate, ids []uint32) []uint64 {
	packets, bytes := g.Total()
	l := []uint64{uint64(packets), bytes}
	for _, id := range ids {
		packets, bytes = g.Own(id)
		l = append(l, uint64(packets), bytes)
		for _, n := range []uint64{0, 1, 2, 5, 10, 11, 1499, 1500, 1501, 65535, 65536, most} {
			l = append(l, uint64(g.May(id, n)))
		}
	}
	return l
}

// turn is a change of a configuration.
type turn func(*api.Config)

// refusals are changes of a valid configuration for which Check returns an
// error, by the errors.
func refusals() map[api.Errno][]turn {
	l := map[api.Errno][]turn{}
	for _, n := range []int{0, -1, math.MinInt, api.MaxPackets + 1, api.MaxRing, 1 << 32, 1<<32 + 1, math.MaxInt} {
		l[api.ErrCaps] = append(l[api.ErrCaps], func(c *api.Config) { c.Packets = n })
	}
	for _, n := range []int{-1, math.MinInt, api.MaxShare + 1, 63, 64, 65, 1 << 32, math.MaxInt} {
		l[api.ErrCaps] = append(l[api.ErrCaps], func(c *api.Config) { c.Share = n })
	}
	l[api.ErrCaps] = append(l[api.ErrCaps], func(c *api.Config) { c.Bytes = 0 },
		func(c *api.Config) { c.Bytes, c.Share = 0, api.MaxShare },
		func(c *api.Config) { c.Bytes, c.Share = 1<<63, 1 },
		func(c *api.Config) { c.Bytes, c.Share = most, 1 },
		func(c *api.Config) { c.Bytes, c.Share = 1<<48, api.MaxShare })
	for _, n := range []uint64{0, api.MaxMTU + 1, 1 << 32, 1<<32 + 1, 1 << 63, most} {
		l[api.ErrMTU] = append(l[api.ErrMTU], func(c *api.Config) { c.MTU = n })
	}
	for _, flows := range [][]api.Flow{nil, {}, count(api.MaxFlows + 1), count(1000), make([]api.Flow, api.MaxFlows+1)} {
		l[api.ErrFlows] = append(l[api.ErrFlows], func(c *api.Config) { c.Flows = flows })
	}
	far := count(api.MaxFlows)
	far[api.MaxFlows-1].ID = far[0].ID
	for _, flows := range [][]api.Flow{make([]api.Flow, 2), {{ID: last, Cap: 1}, {ID: last, Cap: 2}}, {{ID: 5}, {ID: 6}, {ID: 5}}, far} {
		l[api.ErrTwice] = append(l[api.ErrTwice], func(c *api.Config) { c.Flows = flows })
	}
	return l
}

// 17.1: each error alone.
func TestCheck(t *testing.T) {
	c := config(3, 100, 1, 60, 70, 1000)
	newPair(t, c)
	for want, turns := range refusals() {
		for i, turn := range turns {
			c := c
			turn(&c)
			refused(t, c, want, i)
		}
	}
}

// refused tells whether Check and New refuse a configuration.
func refused(t *testing.T, c api.Config, want api.Errno, args ...int) {
	t.Helper()
	if err := Check(c); err != want {
		t.Errorf("Check is %d, not %d: %v", err, want, args)
	}
	if g, err := New(c); g != nil || err != want {
		t.Errorf("New is %v, %d, not %d: %v", g, err, want, args)
	}
}

// 17.1: the error that the chapter names first comes first.
func TestCheckOrder(t *testing.T) {
	l := refusals()
	none := []turn{func(*api.Config) {}}
	caps, mtus := append(none, l[api.ErrCaps]...), append(none, l[api.ErrMTU]...)
	flows := slices.Concat(none, l[api.ErrFlows], l[api.ErrTwice])
	for i, a := range caps {
		for j, b := range mtus {
			for k, d := range flows {
				c := config(5, 1000, 2, 10, 1, 2, 3)
				d(&c)
				b(&c)
				a(&c)
				want := api.OK
				switch {
				case i > 0:
					want = api.ErrCaps
				case j > 0:
					want = api.ErrMTU
				case k > len(l[api.ErrFlows]):
					want = api.ErrTwice
				case k > 0:
					want = api.ErrFlows
				}
				if want != api.OK {
					refused(t, c, want, i, j, k)
				}
			}
		}
	}
}

// 17.1: what is just allowed.
func TestCheckEdges(t *testing.T) {
	for _, packets := range []int{1, 2, 1000, api.MaxPackets - 1, api.MaxPackets} {
		newPair(t, config(packets, 100, 0, 10, 5))
	}
	for _, mtu := range []uint64{1, 2, 1500, api.MaxMTU - 1, api.MaxMTU} {
		newPair(t, config(9, 1<<20, 3, mtu, most))
	}
	for _, n := range []int{1, 2, api.MaxFlows - 1, api.MaxFlows} {
		c := config(9, 1000, 3, 9)
		c.Flows = count(n)
		newPair(t, c)
	}
}

// 17.1: Bytes doubled Share times is just at most 2^64 - 1, or more.
func TestCheckDoubled(t *testing.T) {
	numbers := []uint64{1, 2, 3, 65535, 65536, 65537, 1<<47 - 1, most - 1, most, most - 65535}
	for i := range 64 {
		numbers = append(numbers, 1<<i, 1<<i-1, 1<<i+1, most>>i, most>>i+1, most>>i-1)
	}
	for share := range api.MaxShare + 1 {
		for _, bytes := range numbers {
			doubled := new(big.Int).Lsh(new(big.Int).SetUint64(bytes), uint(share))
			want := api.ErrCaps
			if bytes > 0 && doubled.IsUint64() {
				want = api.OK
			}
			c := config(3, bytes, share, 10, 5)
			if err := Check(c); err != want {
				t.Errorf("Check is %d, not %d, with %d doubled %d times", err, want, bytes, share)
			}
			if g, err := New(c); err != want || (g != nil) != (want == api.OK) {
				t.Errorf("New is %v, %d with %d doubled %d times", g, err, bytes, share)
			}
		}
	}
}

// 17.1: no two flows have the same ID, wherever they are.
func TestCheckTwice(t *testing.T) {
	for _, n := range []int{2, 3, 10, api.MaxFlows} {
		for first := range n {
			for second := first + 1; second < n; second++ {
				c := config(5, 100, 2, 10)
				c.Flows = count(n)
				c.Flows[second].ID = c.Flows[first].ID
				refused(t, c, api.ErrTwice, n, first, second)
			}
		}
	}
	// All else may be the same.
	same := slices.Repeat([]api.Flow{{Cost: 1, Budget: 2, Size: 3, Cap: 4}}, 3)
	same[1].ID, same[2].ID = 1, last
	c := config(5, 100, 2, 10)
	c.Flows = same
	newPair(t, c)
}

// 17.1: what Check does not examine is not wrong, and changes nothing.
func TestOthers(t *testing.T) {
	plain := config(4, 200, 1, 60, 70, 1000, 0)
	for i, x := range []api.Config{
		{Rank: 0, Back: 0}, {Rank: -1, Back: 99, Levels: -1, Queues: -1}, {Rank: api.RankSRS, Back: api.BackQueues, Levels: 4, Queues: 33},
		{Rate: 0, Burst: 0}, {Rate: most, Burst: 59}, {Rank: math.MinInt, Back: math.MaxInt, Levels: math.MaxInt, Queues: math.MinInt, Rate: 1, Burst: most},
	} {
		c := plain
		c.Rank, c.Back, c.Levels, c.Queues, c.Rate, c.Burst = x.Rank, x.Back, x.Levels, x.Queues, x.Rate, x.Burst
		c.Flows = slices.Clone(plain.Flows)
		for k := range c.Flows {
			c.Flows[k].Cost, c.Flows[k].Budget, c.Flows[k].Size = x.Rate+uint64(k), x.Burst, x.Rate*uint64(i)
		}
		a, b := newPair(t, plain), newPair(t, c)
		for k := range uint64(40) {
			id, n := uint32(k%4), k*7%62
			if k%3 == 2 {
				a.out(id, n/2)
				b.out(id, n/2)
			} else {
				a.in(id, n)
				b.in(id, n)
			}
			if x, y := answers(a.g, a.ids()), answers(b.g, b.ids()); !slices.Equal(x, y) {
				t.Fatalf("what is not examined changes answers: %v, %v", x, y)
			}
		}
	}
}

// 17.2, the chapter's example.
func TestExample(t *testing.T) {
	p := newPair(t, config(10, 100, 0, 60, 100, 100))
	if a, b := p.in(1, 50), p.in(1, 1); a != api.OK || b != api.ErrShare {
		t.Errorf("In is %d and %d", a, b)
	}
	if err := p.in(2, 1); err != api.OK {
		t.Errorf("In is %d of another flow", err)
	}
	p.check()
}

// step is a call that changes a gate, and what is answered.
type step struct {
	call string
	id   uint32
	n    uint64
	want api.Errno
}

// do does a step with both.
func (p *pair) do(s step) {
	p.Helper()
	calls := map[string]func(uint32, uint64) api.Errno{"may": p.may, "in": p.in, "lay": p.lay, "out": p.out}
	if err := calls[s.call](s.id, s.n); err != s.want {
		p.Errorf("%s(%d, %d) is %d, not %d", s.call, s.id, s.n, err, s.want)
	}
	p.check()
}

// 17.2, 17.3: steps worked out by hand.
func TestSteps(t *testing.T) {
	p := newPair(t, config(3, 100, 1, 60, 70, 1000))
	for _, s := range []step{
		{"in", 1, 0, api.ErrLen}, {"in", 9, 61, api.ErrLen}, {"in", 9, 60, api.ErrFlow}, {"in", 0, 1, api.ErrFlow}, {"in", last, 1, api.ErrFlow},
		{"out", 1, 0, api.ErrState}, {"out", 1, 1, api.ErrState}, {"out", 3, 0, api.ErrFlow},
		{"in", 1, 60, api.OK}, {"in", 2, 41, api.ErrBytes}, {"in", 1, 41, api.ErrBytes}, {"in", 1, 11, api.ErrOwn}, {"in", 1, 10, api.OK},
		// 30 bytes are left, so a share is 60.
		{"may", 1, 1, api.ErrOwn}, {"in", 2, 31, api.ErrBytes}, {"in", 2, 29, api.OK}, {"in", 2, 1, api.ErrPackets}, {"in", 2, 60, api.ErrPackets},
		{"lay", 2, 1, api.ErrPackets}, {"out", 2, 30, api.ErrState}, {"out", 2, 28, api.OK}, {"out", 2, 0, api.ErrState}, {"out", 2, 1, api.ErrState},
		{"in", 2, 30, api.ErrBytes}, {"in", 2, 29, api.OK}, {"out", 1, 10, api.OK},
		// 10 bytes are left, so a share is 20.
		{"in", 1, 10, api.ErrShare}, {"in", 2, 10, api.ErrShare}, {"lay", 1, 11, api.ErrBytes}, {"lay", 1, 10, api.OK},
		{"out", 1, 71, api.ErrState}, {"out", 1, 0, api.OK}, {"out", 1, 70, api.OK}, {"out", 1, 0, api.ErrState}, {"out", 2, 30, api.OK},
	} {
		p.do(s)
	}
	if packets, bytes := p.g.Total(); packets != 0 || bytes != 0 {
		t.Errorf("Total is %d, %d at the end", packets, bytes)
	}
}

// 17.2: lengths.
func TestLength(t *testing.T) {
	for _, mtu := range []uint64{1, 2, 3, 1500, api.MaxMTU - 1, api.MaxMTU} {
		p := newPair(t, config(9, 1<<30, 0, mtu, most))
		for _, s := range []step{
			{"may", 1, 0, api.ErrLen}, {"in", 1, 0, api.ErrLen}, {"lay", 1, 0, api.ErrLen},
			{"may", 1, mtu + 1, api.ErrLen}, {"in", 1, mtu + 1, api.ErrLen}, {"lay", 1, mtu + 1, api.ErrLen},
			{"in", 1, 1 << 32, api.ErrLen}, {"in", 1, most, api.ErrLen}, {"lay", 1, most, api.ErrLen},
			// ErrLen comes ahead of ErrFlow.
			{"in", 2, 0, api.ErrLen}, {"in", 2, mtu + 1, api.ErrLen}, {"in", 2, mtu, api.ErrFlow}, {"lay", 2, mtu, api.ErrFlow},
			{"in", 1, 1, api.OK}, {"in", 1, mtu, api.OK}, {"lay", 1, 1, api.OK}, {"lay", 1, mtu, api.OK},
		} {
			p.do(s)
		}
	}
}

// 17.2: IDs that are there, and those next to them.
func TestIDs(t *testing.T) {
	c := config(99, 1<<30, 4, 100)
	for _, id := range []uint32{5, 0, last, 1 << 16, 1 << 31, 7} {
		c.Flows = append(c.Flows, api.Flow{ID: id, Cap: most})
	}
	p := newPair(t, c)
	for i, id := range []uint32{0, 1, 4, 5, 6, 7, 8, 1<<16 - 1, 1 << 16, 1<<16 + 1, 1 << 31, 1<<31 + 1, last - 1, last} {
		want := api.ErrFlow
		if slices.ContainsFunc(c.Flows, func(f api.Flow) bool { return f.ID == id }) {
			want = api.OK
		}
		n := uint64(i) + 1
		for _, s := range []step{{"may", id, n, want}, {"in", id, n, want}, {"lay", id, n, want}, {"out", id, n, want}} {
			p.do(s)
		}
	}
}

// 17.2: just as many packets as Packets.
func TestPackets(t *testing.T) {
	for _, packets := range []int{1, 2, 3, 100, api.MaxPackets} {
		p := newPair(t, config(packets, 1<<40, 0, 10, most, most))
		for i := range packets {
			if err := p.g.In(uint32(i%2+1), uint64(i%10+1)); err != api.OK {
				t.Fatalf("In is %d for packet %d of %d", err, i, packets)
			}
			l := p.m.flows[uint32(i%2+1)]
			l.came = append(l.came, uint64(i%10+1))
		}
		for _, s := range []step{
			{"in", 1, 1, api.ErrPackets}, {"in", 2, 10, api.ErrPackets}, {"lay", 1, 1, api.ErrPackets},
			{"in", 1, 11, api.ErrLen}, {"in", 3, 1, api.ErrFlow}, {"out", 1, 1, api.OK}, {"lay", 2, 2, api.OK}, {"in", 1, 1, api.ErrPackets},
			{"out", 2, 2, api.OK}, {"in", 1, 3, api.OK}, {"lay", 2, 1, api.ErrPackets},
		} {
			p.do(s)
		}
	}
}

// 17.2: just as many bytes as Bytes, and one more.
func TestBytes(t *testing.T) {
	for _, bytes := range []uint64{1, 2, 3, 10, 59, 60, 61, 1000} {
		for gap := range min(bytes, 20) {
			p := newPair(t, config(4000, bytes, 2, 60, most, most))
			for p.total() < bytes-gap {
				if err := p.lay(1, min(60, bytes-gap-p.total())); err != api.OK {
					t.Fatalf("Lay is %d", err)
				}
			}
			for n := uint64(1); n <= 60; n++ {
				want := api.OK
				if n > gap {
					want = api.ErrBytes
				}
				if err := p.may(2, n); err != want {
					t.Errorf("May(2, %d) is %d, not %d, with %d left", n, err, want, gap)
				}
			}
			p.check()
			p.lay(2, gap+1)
			p.lay(2, gap)
			p.lay(2, 1)
			p.check()
		}
	}
}

// total returns how many bytes wait.
func (p *pair) total() uint64 {
	_, bytes := p.g.Total()
	return bytes
}

// 17.2: the Cap of a flow.
func TestOwn(t *testing.T) {
	p := newPair(t, config(99, most>>16, 16, 1000, 0, 1, 500, 1000, 1001, 1<<32, most-1, most))
	for _, s := range []step{
		{"in", 1, 1, api.ErrOwn}, {"in", 1, 1000, api.ErrOwn}, {"lay", 1, 1, api.ErrOwn}, {"in", 1, 0, api.ErrLen},
		{"in", 2, 2, api.ErrOwn}, {"in", 2, 1, api.OK}, {"in", 2, 1, api.ErrOwn}, {"out", 2, 1, api.OK}, {"lay", 2, 1, api.OK}, {"lay", 2, 1, api.ErrOwn},
		{"in", 3, 501, api.ErrOwn}, {"in", 3, 300, api.OK}, {"in", 3, 201, api.ErrOwn}, {"in", 3, 199, api.OK}, {"in", 3, 2, api.ErrOwn}, {"in", 3, 1, api.OK}, {"lay", 3, 1, api.ErrOwn},
		{"in", 4, 1000, api.OK}, {"in", 4, 1, api.ErrOwn}, {"in", 5, 1000, api.OK}, {"in", 5, 2, api.ErrOwn}, {"in", 5, 1, api.OK}, {"in", 5, 1, api.ErrOwn},
		{"in", 6, 1000, api.OK}, {"in", 6, 1000, api.OK}, {"in", 7, 1000, api.OK}, {"lay", 7, 1000, api.OK}, {"in", 8, 1000, api.OK}, {"in", 8, 1000, api.OK},
	} {
		p.do(s)
	}
}

// 17.2: a flow that has just its share, one byte less and one more.
func TestShare(t *testing.T) {
	for share := range api.MaxShare + 1 {
		for left := uint64(1); left < 4; left++ {
			just := left << share
			for _, own := range []uint64{just - 1, just, just + 1} {
				p := newPair(t, config(4000, own+left, share, 60000, most, most))
				for p.total() < own {
					if err := p.lay(1, min(60000, own-p.total())); err != api.OK {
						t.Fatalf("Lay is %d", err)
					}
				}
				want := api.OK
				if own >= just {
					want = api.ErrShare
				}
				for n := range left {
					if err := p.may(1, n+1); err != want {
						t.Errorf("May is %d, not %d, with %d bytes and %d left, share %d", err, want, own, left, share)
					}
				}
				p.check()
				// Another flow, of which nothing waits, has its share yet.
				p.do(step{"in", 2, 1, api.OK})
			}
		}
	}
}

// 17.2: the share of a flow depends on what waits of all.
func TestShareOfAll(t *testing.T) {
	p := newPair(t, config(99, 100, 0, 60, most, most, most))
	for _, s := range []step{
		{"in", 1, 20, api.OK}, {"in", 2, 30, api.OK}, {"in", 3, 20, api.OK}, {"may", 1, 1, api.OK}, {"may", 2, 1, api.ErrShare},
		{"in", 3, 10, api.OK}, {"may", 1, 1, api.ErrShare}, {"may", 2, 1, api.ErrShare}, {"may", 3, 1, api.ErrShare},
		{"out", 2, 11, api.OK}, {"may", 1, 1, api.OK}, {"may", 2, 1, api.OK}, {"may", 3, 1, api.OK},
		{"lay", 1, 30, api.OK}, {"may", 2, 1, api.ErrShare}, {"in", 3, 1, api.ErrShare}, {"out", 1, 50, api.OK}, {"in", 1, 1, api.OK}, {"in", 3, 1, api.OK},
	} {
		p.do(s)
	}
}

// 17.2: the greatest Bytes for each Share, whose doubling just does not exceed
// the greatest number.
func TestShareCapped(t *testing.T) {
	for share := range api.MaxShare + 1 {
		for _, less := range []uint64{0, 1, 2} {
			p := newPair(t, config(20, most>>share-less, share, api.MaxMTU, most, most))
			for i := range 20 {
				p.do(step{"in", uint32(i%2 + 1), api.MaxMTU - uint64(i%3), api.OK})
			}
			p.do(step{"in", 1, 1, api.ErrPackets})
		}
	}
}

// 17.2: for each error those that come after it apply as well.
func TestMayOrder(t *testing.T) {
	// One packet waits and no more may; no byte is left; flow 1 has its Cap and
	// its share.
	all := newPair(t, config(1, 10, 0, 10, 10, 10))
	all.do(step{"lay", 1, 10, api.OK})
	for _, s := range []step{{"may", 9, 0, api.ErrLen}, {"may", 9, 11, api.ErrLen}, {"may", 1, 11, api.ErrLen}, {"may", 9, 1, api.ErrFlow}, {"may", 1, 1, api.ErrPackets}, {"lay", 1, 1, api.ErrPackets}} {
		all.do(s)
	}
	bytes := newPair(t, config(2, 10, 0, 10, 10, 10))
	bytes.do(step{"lay", 1, 10, api.OK})
	for _, s := range []step{{"may", 9, 0, api.ErrLen}, {"may", 9, 1, api.ErrFlow}, {"may", 1, 1, api.ErrBytes}, {"in", 1, 1, api.ErrBytes}, {"lay", 1, 1, api.ErrBytes}, {"may", 2, 1, api.ErrBytes}} {
		bytes.do(s)
	}
	own := newPair(t, config(2, 11, 0, 10, 10, 10))
	own.do(step{"lay", 1, 10, api.OK})
	for _, s := range []step{{"may", 9, 1, api.ErrFlow}, {"may", 1, 2, api.ErrBytes}, {"may", 1, 1, api.ErrOwn}, {"in", 1, 1, api.ErrOwn}, {"lay", 1, 1, api.ErrOwn}} {
		own.do(s)
	}
	share := newPair(t, config(2, 11, 0, 10, 11, 10))
	share.do(step{"lay", 1, 10, api.OK})
	for _, s := range []step{{"may", 1, 2, api.ErrBytes}, {"may", 1, 1, api.ErrShare}, {"in", 1, 1, api.ErrShare}, {"lay", 1, 1, api.OK}, {"lay", 2, 1, api.ErrPackets}} {
		share.do(s)
	}
}

// 17.2: May changes nothing, nor does what is refused.
func TestRefused(t *testing.T) {
	p := newPair(t, config(4, 100, 0, 60, 55, 1000))
	p.lay(1, 50)
	p.lay(2, 10)
	before := answers(p.g, p.ids())
	for range 100 {
		for _, s := range []step{
			{"may", 1, 1, api.ErrShare}, {"may", 2, 1, api.OK}, {"may", 2, 40, api.OK}, {"in", 1, 1, api.ErrShare}, {"in", 1, 6, api.ErrOwn}, {"lay", 1, 6, api.ErrOwn},
			{"in", 2, 41, api.ErrBytes}, {"lay", 2, 41, api.ErrBytes}, {"in", 3, 1, api.ErrFlow}, {"lay", 3, 1, api.ErrFlow}, {"lay", 1, 0, api.ErrLen}, {"in", 1, 61, api.ErrLen},
			{"out", 1, 51, api.ErrState}, {"out", 2, 11, api.ErrState}, {"out", 2, most, api.ErrState}, {"out", 3, 0, api.ErrFlow}, {"out", 0, 10, api.ErrFlow}, {"out", last, 10, api.ErrFlow},
		} {
			p.do(s)
		}
		if now := answers(p.g, p.ids()); !slices.Equal(now, before) {
			t.Fatalf("answers are %v, and were %v", now, before)
		}
	}
}

// 17.2: Lay where only ErrShare is due, and Lay that is refused.
func TestLay(t *testing.T) {
	p := newPair(t, config(4, 20, 0, 10, 15, 20))
	for _, s := range []step{
		{"lay", 1, 10, api.OK}, {"in", 1, 1, api.ErrShare}, {"lay", 1, 1, api.OK}, {"in", 1, 4, api.ErrShare}, {"lay", 1, 5, api.ErrOwn}, {"lay", 1, 4, api.OK},
		{"lay", 1, 1, api.ErrOwn}, {"lay", 1, 6, api.ErrBytes}, {"lay", 2, 6, api.ErrBytes}, {"lay", 2, 5, api.OK}, {"lay", 2, 1, api.ErrPackets},
		{"lay", 3, 1, api.ErrFlow}, {"lay", 3, 0, api.ErrLen}, {"lay", 3, 11, api.ErrLen},
	} {
		p.do(s)
	}
}

// 17.3: of packets more or fewer bytes go out than came in.
func TestOut(t *testing.T) {
	p := newPair(t, config(5, 100, 3, 60, 100, 100))
	for _, s := range []step{
		{"out", 1, 0, api.ErrState}, {"out", 1, 1, api.ErrState}, {"out", 1, most, api.ErrState}, {"out", 5, 0, api.ErrFlow}, {"out", 5, most, api.ErrFlow},
		{"in", 1, 10, api.OK}, {"out", 2, 0, api.ErrState}, {"out", 2, 10, api.ErrState}, {"out", 1, 11, api.ErrState}, {"out", 1, 1<<32 + 10, api.ErrState}, {"out", 1, most, api.ErrState},
		{"out", 1, 10, api.OK}, {"out", 1, 0, api.ErrState},
		// All bytes go with one of two packets, which leaves one without bytes.
		{"in", 1, 10, api.OK}, {"in", 1, 20, api.OK}, {"out", 1, 30, api.OK}, {"out", 1, 1, api.ErrState}, {"out", 1, 0, api.OK}, {"out", 1, 0, api.ErrState},
		// No bytes go, which leaves some without a packet.
		{"in", 2, 60, api.OK}, {"out", 2, 0, api.OK}, {"out", 2, 0, api.ErrState}, {"out", 2, 60, api.ErrState},
		{"in", 2, 41, api.ErrBytes}, {"in", 1, 39, api.OK}, {"in", 2, 1, api.ErrShare}, {"lay", 2, 1, api.OK}, {"out", 2, 61, api.OK}, {"out", 1, 39, api.OK},
	} {
		p.do(s)
	}
	if packets, bytes := p.g.Total(); packets != 0 || bytes != 0 {
		t.Errorf("Total is %d, %d at the end", packets, bytes)
	}
}

// 17.3: bytes without packets fill the buffer as others do.
func TestBytesAlone(t *testing.T) {
	p := newPair(t, config(1, 1000, 16, 60, 500, most))
	for range 40 {
		for id := range uint32(2) {
			p.in(id+1, 60)
			p.lay(id+1, 7)
			p.out(id+1, 0)
		}
		p.check()
	}
	if packets, bytes := p.g.Total(); packets != 0 || bytes < 940 {
		t.Errorf("Total is %d, %d at the end", packets, bytes)
	}
}

// 17.5: a packet that comes in and goes out leaves everything as it was.
func TestInAndOut(t *testing.T) {
	seed := uint64(17)
	next := func(n uint64) uint64 {
		seed = seed*6364136223846793005 + 1442695040888963407
		return seed >> 33 % n
	}
	p := newPair(t, config(12, 500, 1, 60, 100, 1000, 200, 1))
	came := 0
	for i := range 400 {
		before := answers(p.g, p.ids())
		id, n := uint32(next(5)+1), next(62)
		call := p.g.In
		if i%2 == 1 {
			call = p.g.Lay
		}
		if call(id, n) == api.OK {
			came++
			if err := p.g.Out(id, n); err != api.OK {
				t.Fatalf("Out is %d after a packet came in", err)
			}
		}
		if now := answers(p.g, p.ids()); !slices.Equal(now, before) {
			t.Fatalf("answers are %v, and were %v", now, before)
		}
		if next(3) == 0 {
			p.out(uint32(next(4)+1), next(60))
		} else {
			p.in(uint32(next(4)+1), next(60))
		}
	}
	if came < 50 {
		t.Errorf("only %d packets came in", came)
	}
}

// 17.2 to 17.4: all sequences of few turns.
func TestAllSequences(t *testing.T) {
	const turns = 5
	for _, share := range []int{0, 1, 16} {
		c := config(3, 8, share, 4, 5, 8)
		for k := range 59049 { // 9 to the number of turns
			p := &pair{t, nil, newModel(c)}
			g, err := New(c)
			if err != api.OK {
				t.Fatal(err)
			}
			p.g = g
			for range turns {
				id := uint32(k%2 + 1)
				switch turn := k % 9; turn {
				case 0, 1:
					p.in(id, 3)
				case 2, 3:
					p.in(id, 1)
				case 4:
					p.lay(1, 4)
				case 5:
					p.lay(2, 2)
				case 6, 7:
					p.out(id, 3)
				case 8:
					p.out(2, 0)
				}
				k /= 9
			}
			for id := range uint32(4) {
				for n := range uint64(6) {
					p.may(id, n)
				}
			}
		}
	}
}

// 17.2 to 17.4, with many turns, against the definition.
func TestMany(t *testing.T) {
	for _, n := range []int{1, 2, 7, api.MaxFlows} {
		for _, share := range []int{0, 1, 5, api.MaxShare} {
			for _, mtu := range []uint64{1, 60, 1500, api.MaxMTU} {
				seed := uint64(n) + mtu + uint64(share)
				next := func(n uint64) uint64 {
					seed = seed*6364136223846793005 + 1442695040888963407
					return seed >> 33 % n
				}
				c := config(int(next(40)+3), mtu*(next(20)+2)+next(mtu), share, mtu)
				c.Flows = count(n)
				for i := range c.Flows {
					c.Flows[i].Cap = next(c.Bytes + mtu)
				}
				p := newPair(t, c)
				for i := range 300 {
					p.turn(next)
					if i%50 == 0 {
						p.check()
					}
				}
				p.check()
			}
		}
	}
}

// turn lets a packet come in or go out.
func (p *pair) turn(next func(uint64) uint64) {
	p.Helper()
	f := p.m.c.Flows[next(uint64(len(p.m.c.Flows)))]
	n := next(p.m.c.MTU+1) + 1 - next(20)/19
	switch next(8) {
	case 0, 1, 2:
		p.in(f.ID, n)
	case 3:
		p.lay(f.ID, n)
	case 4:
		p.in(f.ID+1, n)
	case 5:
		p.out(f.ID, n)
	default:
		if l := p.m.flows[f.ID]; len(l.went) < len(l.came) {
			n = l.came[len(l.went)]
		}
		p.out(f.ID, n)
	}
}

// Ownership: a change of the configuration that was handed in changes nothing
// within, and calls change nothing of it.
func TestConfigChanged(t *testing.T) {
	c := config(3, 100, 1, 60, 70, 1000)
	given := c
	given.Flows = slices.Clone(c.Flows)
	p := newPair(t, given)
	if !slices.Equal(given.Flows, c.Flows) {
		t.Errorf("the flows that were given became %v", given.Flows)
	}
	p.in(1, 20)
	given.Packets, given.Bytes, given.Share, given.MTU = 1, 1, 16, 1
	given.Flows[0] = api.Flow{ID: 9, Cap: 3}
	clear(given.Flows[1:])
	p.check()
	for _, s := range []step{{"in", 1, 51, api.ErrOwn}, {"in", 1, 50, api.OK}, {"in", 9, 1, api.ErrFlow}, {"in", 0, 1, api.ErrFlow}, {"in", 2, 30, api.OK}, {"in", 2, 1, api.ErrPackets}} {
		p.do(s)
	}
}

// P2: gates know nothing of each other, also if they are made of one
// configuration.
func TestTwoGates(t *testing.T) {
	c := config(5, 200, 1, 60, 70, 1000)
	a, b := newPair(t, c), newPair(t, c)
	for i := range uint64(60) {
		id := uint32(i%2 + 1)
		a.in(id, i%61)
		b.lay(id, i*7%61)
		if i%3 == 0 {
			b.out(id, i%20)
		}
		if i%4 == 0 {
			a.out(id, i%20)
		}
		a.check()
		b.check()
	}
}

// 17.3, P1: gates that New did not make store nothing.
func TestNotMade(t *testing.T) {
	refused, _ := New(api.Config{})
	for _, g := range []*Gate{nil, {}, new(Gate), refused} {
		for range 3 {
			for _, id := range []uint32{0, 1, last} {
				for _, n := range []uint64{0, 1, most} {
					for i, err := range []api.Errno{g.May(id, n), g.In(id, n), g.Lay(id, n), g.Out(id, n)} {
						if err != api.ErrNil {
							t.Errorf("call %d is %d", i, err)
						}
					}
				}
				if packets, bytes := g.Own(id); packets != 0 || bytes != 0 {
					t.Errorf("Own is %d, %d", packets, bytes)
				}
			}
			if packets, bytes := g.Total(); packets != 0 || bytes != 0 {
				t.Errorf("Total is %d, %d", packets, bytes)
			}
		}
	}
}

// P1: a gate that is copied as a value is none that New made, but doesn't panic.
func TestCopied(t *testing.T) {
	a := newPair(t, config(5, 200, 1, 60, 70, 1000)).g
	b := *a
	for i := range uint64(60) {
		g := a
		if i%7 < 4 {
			g = &b
		}
		id := uint32(i % 4)
		g.In(id, i)
		g.Lay(id, i%9)
		g.Out(id, i%5)
		g.May(id, i)
		g.Total()
		g.Own(id)
	}
}
