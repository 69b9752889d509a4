package shaper

import (
	"math"
	"slices"
	"strings"
	"testing"

	"pacemaker/api"
	"pacemaker/conf"
	"pacemaker/ops"
)

// 26.1: a new shaper is empty, with a full bucket, the initial tags, and bounds
// of 0.
func TestNew(t *testing.T) {
	for _, c := range []api.Config{config(), least(), greatest()} {
		each(t, c, func(t *testing.T, c api.Config) {
			newPair(t, c).gives(out, stays(api.ErrEmpty))
		})
	}
	st := made(t, config()).State()
	if !same(st, api.State{Tokens: 12, Tags: []uint64{0, 0, 0}, Queues: [][]api.Ranked{nil}}) {
		t.Errorf("the first state is %v", st)
	}
	c := config()
	c.Rank, c.Back = api.RankSRS, api.BackQueues
	st = made(t, c).State()
	if !same(st, api.State{Tokens: 12, Tags: []uint64{100, 20, 0}, Bounds: []uint64{0, 0}, Queues: [][]api.Ranked{nil, nil}}) {
		t.Errorf("the first state is %v", st)
	}
}

// 26.1: packets wait in the backend that the configuration names, though a heap
// and a calendar can't be told apart by what they do.
func TestBackend(t *testing.T) {
	each(t, config(), func(t *testing.T, c api.Config) {
		for _, s := range []*Shaper{made(t, c), resumed(t, c, newModel(c).st)} {
			kind := 0
			switch s.back.(type) {
			case heap:
				kind = api.BackHeap
			case calendar:
				kind = api.BackCalendar
			case queues:
				kind = api.BackQueues
			}
			if kind != c.Back {
				t.Errorf("the backend is of the kind %d", kind)
			}
		}
	})
}

// edits make one thing of a configuration wrong each, in the order in which
// their errors are looked for.
func edits() []func(c *api.Config) {
	return []func(c *api.Config){
		func(c *api.Config) { c.Rank = 4 },
		func(c *api.Config) { c.Back = 0 },
		func(c *api.Config) { c.Levels = 0 },
		func(c *api.Config) { c.Queues = 33 },
		func(c *api.Config) { c.Packets = 4097 },
		func(c *api.Config) { c.Share = -1 },
		func(c *api.Config) { c.MTU = 0 },
		func(c *api.Config) { c.Flows = slices.Repeat(c.Flows[:1], 65) },
		func(c *api.Config) { c.Flows[2].ID = c.Flows[0].ID },
		func(c *api.Config) { c.Rate = 0 },
		func(c *api.Config) { c.Burst = c.MTU - 1 },
	}
}

// checkRefused checks that nothing is made for a configuration that is not
// allowed, whatever else is given.
func checkRefused(t *testing.T, c api.Config, want api.Errno) {
	t.Helper()
	if s, err := New(c); s != nil || err != want {
		t.Fatalf("New(%v) is %v, %d, not %d", c, s, err, want)
	}
	for _, raw := range []string{"", "\x02\x04", "\x01"} {
		if l, err := Play(c, raw); len(l) != 0 || err != want {
			t.Fatalf("Play(%v, %q) is %v, %d, not %d", c, raw, l, err, want)
		}
	}
	for _, st := range []api.State{{}, newModel(config()).st, {Tokens: most, Bounds: []uint64{2, 1}}} {
		if s, err := Load(c, st); s != nil || err != want {
			t.Fatalf("Load(%v, %v) is %v, %d, not %d", c, st, s, err, want)
		}
	}
}

// 26.1, 26.2, 26.3 and 24.4: every choice of wrong things, with each backend.
func TestWrongConfig(t *testing.T) {
	all := edits()
	want := []api.Errno{api.ErrKind, api.ErrKind, api.ErrLevels, api.ErrQueues, api.ErrCaps, api.ErrCaps, api.ErrMTU, api.ErrFlows, api.ErrTwice, api.ErrRate, api.ErrBurst}
	for _, d := range backs(config()) {
		for chosen := 1; chosen < 1<<len(all); chosen++ {
			c, err := d, api.OK
			c.Flows = slices.Clone(d.Flows)
			for i, e := range all {
				if chosen>>i&1 == 1 {
					e(&c)
					if err == api.OK {
						err = want[i]
					}
				}
			}
			checkRefused(t, c, err)
		}
	}
}

// 26.1 and 24.4: each thing of a configuration at its edges is refused with the
// error of conf.Check, whichever backend there is.
func TestConfigEdges(t *testing.T) {
	var l []api.Config
	add := func(edit func(c *api.Config)) {
		c := config()
		c.Flows = slices.Clone(c.Flows)
		edit(&c)
		l = append(l, c)
	}
	for _, n := range []int{math.MinInt, -1, 0, 1, 3, 4, 16, 17, 32, 33, 4096, 4097, math.MaxInt} {
		add(func(c *api.Config) { c.Rank = n })
		add(func(c *api.Config) { c.Levels = n })
		add(func(c *api.Config) { c.Queues = n })
		add(func(c *api.Config) { c.Packets = n })
		add(func(c *api.Config) { c.Share = n })
	}
	for _, n := range []uint64{0, 1, 9, 10, 11, 12, 13, 65535, 65536, most>>1 + 1, most} {
		add(func(c *api.Config) { c.Bytes = n })
		add(func(c *api.Config) { c.MTU = n })
		add(func(c *api.Config) { c.MTU, c.Burst = n, most })
		add(func(c *api.Config) { c.Rate = n })
		add(func(c *api.Config) { c.Burst = n })
	}
	add(func(c *api.Config) { c.Flows = nil })
	add(func(c *api.Config) { c.Flows = greatest().Flows })
	add(func(c *api.Config) { c.Flows = append(greatest().Flows, api.Flow{}) })
	add(func(c *api.Config) { c.Flows[0] = c.Flows[2] })
	for _, c := range l {
		want := conf.Check(c)
		for _, c.Back = range []int{api.BackHeap, api.BackCalendar, api.BackQueues} {
			if want != api.OK {
				checkRefused(t, c, want)
			} else {
				newPair(t, c).do(in(1, 1, 1))
			}
		}
		for _, c.Back = range []int{math.MinInt, -1, 0, 4, 257, math.MaxInt} {
			checkRefused(t, c, api.ErrKind)
		}
	}
}

// noKinds are kinds of operations that there are not.
var noKinds = []int{math.MinInt, -1 << 32, -256, -5, -2, -1, 6, 7, 8, 77, 255, 256, 257, 258, 259, 260, 261, 1 << 32, 1<<32 + 1, math.MaxInt}

// 26.2: what there is no kind for, and what is not an operation, is answered and
// counted, whatever else it says.
func TestJunkAndTorn(t *testing.T) {
	each(t, config(), func(t *testing.T, c api.Config) {
		p := newPair(t, c)
		p.do(in(1, 1, 3))
		var bad, short uint64
		for _, kind := range append([]int{api.OpJunk, api.OpTorn}, noKinds...) {
			for _, x := range []api.Op{{}, {Flow: 1, ID: 2, Len: 3, Ticks: 4}, {Flow: last, ID: last, Len: most, Ticks: most}, {Len: 2}} {
				x.Kind = kind
				if kind == api.OpTorn {
					short++
					p.gives(x, wasTorn)
				} else {
					bad++
					p.gives(x, isJunk)
				}
				want := api.Stats{Tokens: 12, Packets: 1, Bytes: 3}
				want.Refused[api.ErrBad], want.Refused[api.ErrShort] = bad, short
				p.gives(stats, api.Reply{Kind: api.OpStats, Stats: want})
			}
		}
	})
}

// 26.2: an OpEnqueue is refused with each error of the gate, and this is
// counted; what else it says doesn't matter.
func TestEnqueueErrors(t *testing.T) {
	each(t, config(), func(t *testing.T, c api.Config) {
		c.Bytes, c.Packets = 40, 6
		p := newPair(t, c)
		var refused [api.Errnos]uint64
		checkCounts := func() {
			t.Helper()
			if r := p.do(stats); r.Stats.Refused != refused {
				t.Fatalf("refused were %v, not %v", r.Stats.Refused, refused)
			}
		}
		no := func(flow uint32, n uint64, err api.Errno) {
			t.Helper()
			refused[err]++
			p.gives(in(flow, 9, n), shut(flow, 9, n, err))
			checkCounts()
		}
		yes := func(flow uint32, n uint64) {
			t.Helper()
			if r := p.do(api.Op{Kind: api.OpEnqueue, Flow: flow, ID: last, Len: n, Ticks: 99}); r.Code != api.OK {
				t.Fatalf("%d bytes of %d are %v", n, flow, r)
			}
			checkCounts()
		}
		for _, n := range []uint64{0, 11, 12, 1 << 32, 1<<32 + 1, most} {
			no(1, n, api.ErrLen)
			no(3, n, api.ErrLen)
		}
		for _, id := range []uint32{0, 3, 8, 257, last} {
			no(id, 1, api.ErrFlow)
			no(id, 10, api.ErrFlow)
		}
		yes(2, 10)
		yes(1, 10)
		yes(1, 10) // 20 of 30, and 10 of 40 are left
		no(1, 1, api.ErrShare)
		yes(7, 1)
		yes(2, 5) // 4 are left
		no(2, 5, api.ErrBytes)
		no(2, 4, api.ErrShare)
		yes(7, 4)
		no(7, 1, api.ErrPackets)
		no(7, 10, api.ErrPackets)
		no(3, 1, api.ErrFlow)
		no(7, 11, api.ErrLen)
		p.drain()
		yes(1, 10)
		yes(7, 10)
	})
}

// 26.2: as many packets wait as may, until one leaves.
func TestEnqueuePackets(t *testing.T) {
	each(t, config(), func(t *testing.T, c api.Config) {
		c.Bytes = 1000
		for _, c.Packets = range []int{1, 2, 3, 7} {
			p := newPair(t, c)
			for i := range uint32(c.Packets) {
				p.do(in(i%2+1, i, 1))
			}
			for i := range uint32(3) {
				p.gives(in(2, 10+i, 1), shut(2, 10+i, 1, api.ErrPackets))
				p.gives(in(7, 10+i, 10), shut(7, 10+i, 10, api.ErrPackets))
				p.do(out)
				if r := p.do(in(1, 20+i, 1)); r.Code != api.OK {
					t.Errorf("a packet after another one left is %v", r)
				}
			}
		}
	})
}

// 26.2: all bytes of a flow in use.
func TestEnqueueOwn(t *testing.T) {
	each(t, config(), func(t *testing.T, c api.Config) {
		c.Bytes = 1000
		p := newPair(t, c)
		for range 2 {
			p.do(in(1, 1, 10))
		}
		p.do(in(1, 2, 9))
		p.gives(in(1, 3, 2), shut(1, 3, 2, api.ErrOwn))
		if r := p.do(in(1, 4, 1)); r.Code != api.OK {
			t.Errorf("the last byte of the flow is %v", r)
		}
		p.gives(in(1, 5, 1), shut(1, 5, 1, api.ErrOwn))
		p.do(in(2, 6, 10))
		p.do(tick(1000))
		for p.do(out).Packet.Flow != 1 {
			p.do(tick(1000))
		}
		if r := p.do(in(1, 7, 1)); r.Code != api.OK {
			t.Errorf("a byte after others left is %v", r)
		}
	})
}

// 26.2: all bytes in use, and a flow without a Cap.
func TestEnqueueBytes(t *testing.T) {
	each(t, config(), func(t *testing.T, c api.Config) {
		c.Bytes, c.Share = 25, 16
		c.Flows = append(slices.Clone(c.Flows), api.Flow{ID: last})
		p := newPair(t, c)
		p.gives(in(last, 1, 1), shut(last, 1, 1, api.ErrOwn))
		p.do(in(1, 1, 10))
		p.do(in(2, 2, 10))
		p.gives(in(7, 3, 6), shut(7, 3, 6, api.ErrBytes))
		if r := p.do(in(7, 4, 5)); r.Code != api.OK {
			t.Errorf("the last bytes are %v", r)
		}
		p.gives(in(7, 5, 1), shut(7, 5, 1, api.ErrBytes))
		p.gives(in(last, 5, 1), shut(last, 5, 1, api.ErrBytes))
	})
}

// 26.2 and 16: the ranks of RankSTFQ, and in which order packets leave.
func TestRankSTFQ(t *testing.T) {
	for _, c := range backs(config()) {
		p := newPair(t, c)
		p.gives(in(1, 1, 10), came(1, 1, 10, 0))
		p.gives(in(1, 2, 3), came(1, 2, 3, 20))
		p.gives(in(2, 3, 10), came(2, 3, 10, 0))
		p.gives(in(2, 4, 10), came(2, 4, 10, 10))
		p.gives(in(7, 5, 1), came(7, 5, 1, 0))
		p.gives(in(7, 6, 1), came(7, 6, 1, 0))
		p.do(tick(9))
		left := p.drain()
		switch {
		case c.Back != api.BackQueues:
			checkLeft(t, c, left, 1, 3, 5, 6, 4, 2)
		case c.Queues == 1:
			checkLeft(t, c, left, 1, 2, 3, 4, 5, 6)
		case c.Queues == 2:
			// Queue 1 has 1 and 2 (its bound is 20 then), queue 0 all others.
			checkLeft(t, c, left, 3, 4, 5, 6, 1, 2)
		default:
			// Queue 31 has 1 and 2, 30 has 3 and 4, 29 has 5 and 6.
			checkLeft(t, c, left, 5, 6, 3, 4, 1, 2)
		}
		// The virtual time is the rank of what left last.
		virtual := map[bool]uint64{true: 20, false: 0}[c.Back != api.BackQueues || c.Queues > 1]
		p.gives(in(7, 7, 1), came(7, 7, 1, virtual))
		p.gives(in(2, 8, 5), came(2, 8, 5, 20))
		p.gives(in(1, 9, 5), came(1, 9, 5, 26))
	}
}

// 26.2 and 16: the ranks of RankEDF.
func TestRankEDF(t *testing.T) {
	for _, c := range backs(config()) {
		c.Rank = api.RankEDF
		p := newPair(t, c)
		p.gives(in(1, 1, 1), came(1, 1, 1, 9))
		p.do(tick(1))
		p.gives(in(2, 2, 1), came(2, 2, 1, 6))
		p.gives(in(7, 3, 1), came(7, 3, 1, 1))
		p.do(tick(3))
		p.gives(in(2, 4, 1), came(2, 4, 1, 9))
		left := p.drain()
		switch {
		case c.Back != api.BackQueues:
			checkLeft(t, c, left, 3, 2, 1, 4)
		case c.Queues == 1:
			checkLeft(t, c, left, 1, 2, 3, 4)
		case c.Queues == 2:
			// Queue 1 has 1, with 9, and 0 has 2; for 3 the bounds become 1 and 4.
			checkLeft(t, c, left, 2, 3, 1, 4)
		default:
			// Queue 31 has 1 and 4, 30 has 2, and 29 has 3.
			checkLeft(t, c, left, 3, 2, 1, 4)
		}
		p.do(tick(most))
		p.gives(in(1, 5, 1), came(1, 5, 1, most))
		p.gives(in(7, 6, 1), came(7, 6, 1, most))
		if st := p.s.State(); st.Virtual != 0 || !slices.Equal(st.Tags, []uint64{0, 0, 0}) {
			t.Errorf("the virtual time and the tags are %v", st)
		}
	}
}

// 26.2 and 16: the ranks of RankSRS.
func TestRankSRS(t *testing.T) {
	for _, c := range backs(config()) {
		c.Rank = api.RankSRS
		p := newPair(t, c)
		p.gives(in(1, 1, 10), came(1, 1, 10, 100))
		p.gives(in(2, 2, 9), came(2, 2, 9, 20))
		p.gives(in(1, 3, 1), came(1, 3, 1, 90))
		p.gives(in(2, 4, 10), came(2, 4, 10, 11))
		p.gives(in(2, 5, 2), came(2, 5, 2, 1))
		p.gives(in(2, 6, 2), came(2, 6, 2, 0))
		p.gives(in(7, 7, 2), came(7, 7, 2, 0))
		p.do(tick(9))
		left := p.drain()
		switch {
		case c.Back != api.BackQueues:
			checkLeft(t, c, left, 6, 7, 5, 4, 2, 3, 1)
		case c.Queues == 1:
			checkLeft(t, c, left, 1, 2, 3, 4, 5, 6, 7)
		case c.Queues == 2:
			// Queue 1 has 1 (100) and queue 0 has 2 (20) and 3 (90); for 4 the
			// bounds become 11 and 21, then 1 and 11, then 0 and 10.
			checkLeft(t, c, left, 2, 3, 4, 5, 6, 7, 1)
		default:
			// Queue 31 has 1, 30 has 2 and 3, and so on; 27 has 6 and 7.
			checkLeft(t, c, left, 6, 7, 5, 4, 2, 3, 1)
		}
		if st := p.s.State(); st.Virtual != 0 || !slices.Equal(st.Tags, []uint64{89, 0, 0}) {
			t.Errorf("the virtual time and the tags are %v", st)
		}
	}
}

// drain lets everything leave and returns it.
func (p *pair) drain() []api.Packet {
	p.Helper()
	var l []api.Packet
	for {
		switch r := p.do(out); r.Code {
		case api.OK:
			l = append(l, r.Packet)
		case api.ErrNotYet:
			p.do(tick(1))
		default:
			return l
		}
	}
}

func checkLeft(t *testing.T, c api.Config, l []api.Packet, want ...uint32) {
	t.Helper()
	var ids []uint32
	for _, p := range l {
		ids = append(ids, p.ID)
	}
	if !slices.Equal(ids, want) {
		t.Errorf("%s: %v left, not %v", name(c), ids, want)
	}
}

// 26.2: nothing leaves while nothing waits, or while the head has more bytes
// than there are tokens; also one byte more; also if another packet has fewer.
func TestDequeue(t *testing.T) {
	each(t, config(), func(t *testing.T, c api.Config) {
		p := newPair(t, c)
		p.gives(out, stays(api.ErrEmpty))
		p.do(in(2, 1, 10))
		p.gives(api.Op{Kind: api.OpDequeue, Flow: 1, ID: 2, Len: 11, Ticks: 9}, api.Reply{Kind: api.OpDequeue, Packet: packet(2, 1, 10), Rank: p.m.st.Queues[len(p.m.st.Queues)-1][0].Rank})
		p.gives(out, stays(api.ErrEmpty)) // 2 tokens are left
		p.do(in(2, 2, 3))
		p.gives(out, stays(api.ErrNotYet))
		p.gives(out, stays(api.ErrNotYet))
		p.do(tick(0))
		p.gives(out, stays(api.ErrNotYet))
		p.do(tick(1)) // 4
		if r := p.do(out); r.Packet.ID != 2 {
			t.Errorf("the packet of 3 bytes is %v", r)
		}
		p.do(in(2, 3, 1)) // as many as there are
		if r := p.do(out); r.Packet.ID != 3 || p.m.st.Tokens != 0 {
			t.Errorf("the packet of 1 byte is %v", r)
		}
		p.do(in(2, 4, 1))
		p.do(in(2, 5, 10))
		p.gives(out, stays(api.ErrNotYet))
		p.do(tick(1))
		p.do(out) // whichever is the head, it is the only one that may leave
		p.gives(out, stays(api.ErrNotYet))
		p.do(tick(6))
		p.drain()
		p.gives(out, stays(api.ErrEmpty))
		for i, n := range p.m.st.Refused {
			if n != 0 {
				t.Errorf("%d are counted for %d", n, i)
			}
		}
	})
}

// 26.2: a head with as many bytes as there are tokens, and one with one more,
// for all numbers of tokens.
func TestTokens(t *testing.T) {
	for _, d := range backs(config()) {
		c := d
		c.Rate = 1
		for tokens := range uint64(13) {
			for n := uint64(1); n <= 10; n++ {
				st := newModel(c).st
				st.Tokens = tokens
				p := loadPair(t, c, st)
				p.do(in(1, 1, n))
				for missing := n; missing > tokens; missing-- {
					p.gives(out, stays(api.ErrNotYet))
					p.gives(tick(1), ticked)
				}
				p.gives(out, went(1, 1, n, 0))
				if left := p.m.st.Tokens; left != max(tokens, n)-n {
					t.Errorf("%d tokens are left of %d after %d bytes", left, tokens, n)
				}
			}
		}
	}
}

// 26.2: the time, and the tokens that come with it, for any ticks.
func TestTick(t *testing.T) {
	each(t, config(), func(t *testing.T, c api.Config) {
		p := newPair(t, c)
		see := func(x api.Op, now, tokens uint64) {
			t.Helper()
			p.gives(x, ticked)
			if st := p.s.State(); st.Now != now || st.Tokens != tokens {
				t.Fatalf("after %v the time is %d, with %d tokens", x, st.Now, st.Tokens)
			}
		}
		see(tick(0), 0, 12)
		see(tick(1), 1, 12)
		p.do(in(1, 1, 10))
		p.do(in(2, 2, 10))
		p.do(out)
		see(tick(0), 1, 2)
		see(tick(2), 3, 6)
		see(api.Op{Kind: api.OpTick, Flow: 1, ID: 2, Len: 3, Ticks: 2}, 5, 10)
		see(tick(1), 6, 12)
		p.do(out)
		see(tick(4), 10, 10)
		see(tick(4), 14, 12)
		p.do(in(1, 3, 10))
		p.do(out)
		see(tick(most-15), most-1, 12)
		p.do(in(1, 4, 10))
		p.do(out)
		see(tick(1), most, 4)
		see(tick(1), most, 6)
		see(tick(0), most, 6)
		see(tick(most), most, 12)
		p.do(in(2, 5, 10))
		p.do(out)
		see(tick(2), most, 6)
		see(tick(most), most, 12)
	})
}

// 26.2: rates and bursts with which sums and products exceed all numbers.
func TestTickGreat(t *testing.T) {
	for _, ticks := range []uint64{0, 1, 2, 1 << 31, 1 << 32, 1 << 33, 1<<63 - 1, 1 << 63, most - 1, most} {
		for _, rate := range []uint64{1, 2, 1 << 31, 1 << 32, 1 << 33, 1 << 63, most} {
			for _, burst := range []uint64{10, 1 << 32, 1 << 63, most} {
				for _, c := range backs(config()) {
					if c.Levels > 1 {
						continue
					}
					c.Rate, c.Burst = rate, burst
					p := newPair(t, c)
					p.do(in(1, 1, 10))
					p.do(in(1, 2, 10))
					p.do(out)
					st := p.s.State()
					st.Tokens = 0
					for _, p := range []*pair{p, loadPair(t, c, st)} {
						p.do(tick(ticks))
						p.do(out)
						p.do(tick(ticks))
						p.do(tick(1))
					}
				}
			}
		}
	}
}

// 26.2: what OpStats tells behind each kind of operation.
func TestStats(t *testing.T) {
	each(t, config(), func(t *testing.T, c api.Config) {
		p := newPair(t, c)
		want := api.Stats{Tokens: 12}
		see := func(x api.Op) {
			t.Helper()
			p.do(x)
			for _, x := range []api.Op{stats, {Kind: api.OpStats, Flow: 1, ID: 2, Len: 3, Ticks: 4}} {
				p.gives(x, api.Reply{Kind: api.OpStats, Stats: want})
			}
		}
		see(stats)
		see(out)
		want.Packets, want.Bytes = 1, 10
		see(in(1, 1, 10))
		want.Packets, want.Bytes = 2, 20
		see(in(1, 2, 10))
		want.Refused[api.ErrLen] = 1
		see(in(1, 3, 11))
		want.Refused[api.ErrLen] = 2
		see(in(3, 3, 0))
		want.Refused[api.ErrFlow] = 1
		see(in(3, 3, 1))
		want.Packets, want.Bytes, want.Tokens = 1, 10, 2
		see(out)
		see(out)
		want.Now, want.Tokens = 3, 8
		see(tick(3))
		see(out)
		want.Refused[api.ErrBad] = 1
		see(junk(7))
		want.Refused[api.ErrBad] = 2
		see(api.Op{Kind: -1})
		want.Refused[api.ErrShort] = 1
		see(torn)
		want.Now, want.Tokens = 4, 10
		see(tick(1))
		want.Packets, want.Bytes, want.Tokens = 0, 0, 0
		see(out)
		see(out)
		want.Now, want.Tokens = most, 12
		see(tick(most))
	})
}

// 26.2: a number of refused operations stays the greatest number.
func TestRefusedCapped(t *testing.T) {
	each(t, config(), func(t *testing.T, c api.Config) {
		st := newModel(c).st
		for i := range st.Refused {
			st.Refused[i] = most - 1
		}
		p := loadPair(t, c, st)
		for range 3 {
			for _, x := range []api.Op{in(1, 1, 0), in(3, 1, 1), junk(0), torn, {Kind: 9}} {
				p.do(x)
			}
		}
		st.Refused[api.ErrLen], st.Refused[api.ErrFlow], st.Refused[api.ErrBad], st.Refused[api.ErrShort] = most, most, most, most
		if got := p.s.State(); got.Refused != st.Refused {
			t.Errorf("refused were %v", got.Refused)
		}
	})
}

// 26.2: the fields that are not named for a kind are 0, in every reply.
func TestReplyFields(t *testing.T) {
	each(t, config(), func(t *testing.T, c api.Config) {
		s := made(t, c)
		s.Do(tick(5))
		seen := map[api.Reply]bool{} // the kinds and codes
		for i, x := range anyOps(c, 26, 3000) {
			r := s.Do(x)
			seen[api.Reply{Kind: r.Kind, Code: r.Code}] = true
			want := api.Reply{Kind: r.Kind, Code: r.Code}
			switch {
			case r.Kind == api.OpEnqueue && r.Code == api.OK, r.Kind == api.OpDequeue && r.Code == api.OK:
				want.Packet, want.Rank = r.Packet, r.Rank
			case r.Kind == api.OpEnqueue:
				want.Packet = r.Packet
			case r.Kind == api.OpStats:
				want.Stats = r.Stats
			}
			if r != want {
				t.Fatalf("%d: %v is %v", i, x, r)
			}
			if r.Kind == api.OpEnqueue && r.Packet != packet(x.Flow, x.ID, x.Len) {
				t.Fatalf("%d: %v is %v", i, x, r)
			}
		}
		if len(seen) < 13 {
			t.Errorf("only %v were seen", seen)
		}
	})
}

// 26.2: Run does operation after operation; none does nothing.
func TestRun(t *testing.T) {
	each(t, config(), func(t *testing.T, c api.Config) {
		s, m := made(t, c), newModel(c)
		for n := range 40 {
			for _, none := range [][]api.Op{nil, {}} {
				if l := s.Run(none); len(l) != 0 {
					t.Fatalf("Run of nothing is %v", l)
				}
			}
			l := anyOps(c, uint64(n), n*n)
			var want []api.Reply
			for _, x := range l {
				want = append(want, m.do(x))
			}
			if got := s.Run(l); !slices.Equal(got, want) {
				t.Fatalf("Run(%v) is %v, not %v", l, got, want)
			}
			if st := s.State(); !same(st, m.st) {
				t.Fatalf("State is %v, not %v", st, m.st)
			}
		}
	})
}

// checkPlay checks Play against the model, and against Run.
func checkPlay(t *testing.T, c api.Config, raw string) {
	t.Helper()
	l := ops.Read(raw)
	m := newModel(c)
	var want []api.Reply
	for _, x := range l {
		want = append(want, m.do(x))
	}
	if got, err := Play(c, raw); err != api.OK || !slices.Equal(got, want) {
		t.Fatalf("Play(%q) is %v, %d, not %v", raw, got, err, want)
	}
	if got := replies(t, c, l); !slices.Equal(got, want) {
		t.Fatalf("Run(%v) is %v, not %v", l, got, want)
	}
}

// 26.2: Play of no bytes, of whole operations, and of ones that are torn.
func TestPlay(t *testing.T) {
	each(t, config(), func(t *testing.T, c api.Config) {
		checkPlay(t, c, "")
		whole := "\x01\x00\x00\x00\x02\x00\x00\x00\x05\x03\x02\x02\x09\x03\x05\x04"
		for n := range len(whole) + 1 {
			checkPlay(t, c, whole[:n])
			checkPlay(t, c, whole+whole[:n])
		}
		l, err := Play(c, whole+"\x01\x02\x02")
		if err != api.OK || len(l) != 7 || l[0].Packet != packet(2, 5, 3) || l[1].Packet != packet(2, 5, 3) || l[2] != stays(api.ErrEmpty) || l[3] != isJunk || l[4] != ticked || l[5].Stats.Now != 5 || l[6] != wasTorn {
			t.Errorf("the replies are %v, %d", l, err)
		}
		checkPlay(t, c, "\x01")
		checkPlay(t, c, "\x03\x80\x00\x02")
		checkPlay(t, c, strings.Repeat("\xff\x00\x02\x04", 50)+"\x03")
	})
}

// 26.2: Play of any bytes, and of the encodings of any operations.
func TestPlayAny(t *testing.T) {
	each(t, config(), func(t *testing.T, c api.Config) {
		next := random(262)
		for range 40 {
			b := make([]byte, next(300))
			for i := range b {
				b[i] = byte(next(8))
			}
			checkPlay(t, c, string(b))
		}
		for n := range 20 {
			l := slices.DeleteFunc(anyOps(c, uint64(n), 200), func(x api.Op) bool { return !ops.Right(x) })
			raw, err := ops.Put(l...)
			if err != api.OK {
				t.Fatal(err)
			}
			checkPlay(t, c, raw)
		}
	})
}

// 26.2: all short lists of operations.
func TestAllShort(t *testing.T) {
	c := config()
	c.Packets, c.Bytes, c.MTU, c.Burst, c.Rate = 3, 7, 4, 5, 1
	few := []api.Op{in(1, 1, 4), in(2, 2, 2), in(7, 3, 1), out, tick(1), tick(3), torn}
	each(t, c, func(t *testing.T, c api.Config) {
		depth := 5
		if c.Levels > 1 {
			depth = 3
		}
		var l []api.Op
		var more func()
		more = func() {
			if len(l) == depth {
				s, m := made(t, c), newModel(c)
				for i, x := range l {
					x.ID += uint32(10 * i)
					if r, want := s.Do(x), m.do(x); r != want {
						t.Fatalf("%v: reply %d is %v, not %v", l, i, r, want)
					}
				}
				if st := s.State(); !same(st, m.st) {
					t.Fatalf("%v: State is %v, not %v", l, st, m.st)
				}
				return
			}
			for _, x := range few {
				l = append(l, x)
				more()
				l = l[:len(l)-1]
			}
		}
		more()
	})
}

// 26.2: everything at once, for long lists of operations of all kinds.
func TestLong(t *testing.T) {
	for _, c := range []api.Config{config(), least()} {
		each(t, c, func(t *testing.T, c api.Config) {
			p := newPair(t, c)
			for _, x := range anyOps(c, uint64(c.Levels+c.Queues), 4000) {
				p.do(x)
			}
			p.drain()
		})
	}
}

// 26.2: the greatest numbers of everything: all room, all flows, all queues.
func TestGreatest(t *testing.T) {
	each(t, greatest(), func(t *testing.T, c api.Config) {
		s := made(t, c)
		m := newModel(c)
		check := func(x api.Op) {
			if r, want := s.Do(x), m.do(x); r != want {
				t.Fatalf("%v is %v, not %v", x, r, want)
			}
		}
		for i := range uint32(4097) {
			check(in(last-i*7%64, i, 1+uint64(i)*16%65535))
		}
		check(stats)
		for i := range uint32(200) {
			check(out)
			check(in(last-i%64, 5000+i, 65535))
			check(in(last-i%64, 6000+i, 65535))
			check(tick(1))
		}
		check(stats)
		if st := s.State(); !same(st, m.st) {
			t.Error("the states differ")
		}
	})
}

// 26.2 and 26.3: a shaper that New did not make refuses everything, and stores
// nothing.
func TestNotMade(t *testing.T) {
	for _, s := range []*Shaper{nil, {}, new(Shaper)} {
		for range 2 {
			l := []api.Op{in(1, 2, 3), in(1, 2, 0), out, tick(5), tick(most), stats, torn, junk(7), {Kind: api.OpStats, Flow: 1, ID: 2, Len: 3, Ticks: 4}}
			for _, kind := range noKinds {
				l = append(l, api.Op{Kind: kind, Flow: 1, ID: 2, Len: 3, Ticks: 4})
			}
			var want []api.Reply
			for _, x := range l {
				r := api.Reply{Kind: x.Kind, Code: api.ErrNil}
				if x.Kind < 0 || x.Kind > 5 {
					r.Kind = api.OpJunk
				}
				want = append(want, r)
				if got := s.Do(x); got != r {
					t.Errorf("%v is %v, not %v", x, got, r)
				}
			}
			if got := s.Run(l); !slices.Equal(got, want) {
				t.Errorf("Run is %v, not %v", got, want)
			}
			if got := s.Run(nil); len(got) != 0 {
				t.Errorf("Run of nothing is %v", got)
			}
			if st := s.State(); !same(st, api.State{}) {
				t.Errorf("State is %v", st)
			}
		}
	}
}
