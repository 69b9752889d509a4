package shaper

import (
	"math/bits"
	"slices"
	"testing"

	"pacemaker/api"
)

// extremes are configurations with which ranks, tags and times come to their
// ends, or far from each other.
func extremes() []api.Config {
	numbers := func(c api.Config, cost, budget, size uint64) api.Config {
		c.Flows = slices.Clone(c.Flows)
		for i := range c.Flows {
			c.Flows[i].Cost, c.Flows[i].Budget, c.Flows[i].Size = cost>>(5*i), budget>>(7*i), size>>(9*i)
		}
		return c
	}
	large := config()
	large.Packets, large.Bytes, large.Rate, large.Burst = 4096, most>>1, 5, 100
	for i := range large.Flows {
		large.Flows[i].Cap = most
	}
	return []api.Config{
		numbers(config(), most/50, most-300, most),
		numbers(config(), 1, 1, 1),
		numbers(large, 1<<40, 1<<40, 1<<20),
		numbers(large, 70, 100, 3000),
		numbers(large, 0, 0, 0),
		numbers(large, most, most, most),
	}
}

// wideOps are operations as anyOps, but some ticks are great, and fewer packets
// leave at times.
func wideOps(c api.Config, seed uint64, n int) []api.Op {
	l := anyOps(c, seed, n)
	next := random(seed + 1)
	for i := range l {
		switch {
		case i/300%3 == 0 && l[i] == out && next(3) > 0:
			l[i] = in(c.Flows[0].ID, uint32(i), 1+next(c.MTU))
		case l[i].Kind == api.OpTick && next(50) == 0:
			l[i].Ticks = next(1<<31) << next(34)
		}
	}
	return l
}

// 26.5 and 11.2: a heap and calendars give the same replies, which are those of
// a sorted list, and have the same states.
func TestHeapAndCalendar(t *testing.T) {
	for i, c := range append(extremes(), config()) {
		for rank := api.RankSTFQ; rank <= api.RankSRS; rank++ {
			c.Rank = rank
			var all []*Shaper
			for _, d := range inOrder(c) {
				all = append(all, made(t, d))
			}
			m := newModel(c)
			for j, x := range wideOps(c, uint64(i), 5000) {
				want := m.do(x)
				for k, s := range all {
					if r := s.Do(x); r != want {
						t.Fatalf("%d: backend %d: %d: %v is %v, not %v", i, k, j, x, r, want)
					}
					if j%250 == 0 && !same(s.State(), m.st) {
						t.Fatalf("%d: backend %d: %d: State is %v, not %v", i, k, j, s.State(), m.st)
					}
				}
			}
		}
	}
}

// 26.5: also where the ranks that wait are any, as loaded.
func TestHeapAndCalendarLoaded(t *testing.T) {
	next := random(265)
	c := extremes()[3]
	for round := range 60 {
		st := newModel(c).st
		var l []api.Ranked
		for i := range 1 + next(40) {
			rank := (next(1<<31)<<33 | next(1<<31)<<2) >> next(64)
			if next(3) == 0 && len(l) > 0 {
				rank = l[next(uint64(len(l)))].Rank
			}
			if next(4) == 0 {
				rank = most - next(3)
			}
			l = append(l, at(rank, packet([]uint32{1, 2, 7}[next(3)], uint32(i), 1+next(10))))
		}
		slices.SortStableFunc(l, func(a, b api.Ranked) int {
			if a.Rank < b.Rank {
				return -1
			}
			if a.Rank > b.Rank {
				return 1
			}
			return 0
		})
		st.Queues[0] = l
		for i := range st.Tags {
			st.Tags[i] = l[next(uint64(len(l)))].Rank
		}
		c.Rank = 1 + round%3
		for _, d := range inOrder(c) {
			p := loadPair(t, d, st)
			for _, x := range anyOps(c, uint64(round), 100) {
				p.do(x)
			}
			p.drain()
		}
	}
}

// idle tells whether an operation with this reply was refused, found nothing or
// came too early.
func idle(r api.Reply) bool { return r.Code != api.OK }

// counted tells whether it is one of the refused ones.
func counted(r api.Reply) bool {
	return idle(r) && r.Code != api.ErrEmpty && r.Code != api.ErrNotYet
}

// checkWithout checks that the operations that are marked, taken out of a list,
// change no other reply but the counts of what was refused.
func checkWithout(t *testing.T, c api.Config, l []api.Op, all []api.Reply, gone func(i int) bool) {
	t.Helper()
	var rest []api.Op
	var want []api.Reply
	var fewer [api.Errnos]uint64
	for i, x := range l {
		switch {
		case !gone(i):
			r := all[i]
			if r.Kind == api.OpStats {
				for j := range fewer {
					r.Stats.Refused[j] -= fewer[j]
				}
			}
			rest, want = append(rest, x), append(want, r)
		case counted(all[i]):
			fewer[all[i].Code]++
		}
	}
	if got := replies(t, c, rest); !slices.Equal(got, want) {
		t.Fatalf("the replies to %v are %v, not %v", rest, got, want)
	}
}

// 26.6: what was refused, found nothing or came too early, taken out, changes
// nothing else: one at a time, all of them, and all of one kind.
func TestRefusedChangesNothing(t *testing.T) {
	for i, c := range []api.Config{config(), extremes()[0]} {
		each(t, c, func(t *testing.T, c api.Config) {
			l := append(anyOps(c, uint64(266+i), 150), tick(100), out, stats)
			all := replies(t, c, l)
			n := 0
			for i := range l {
				if idle(all[i]) {
					n++
					checkWithout(t, c, l, all, func(j int) bool { return j == i })
				}
			}
			if n < 20 {
				t.Errorf("only %d were refused", n)
			}
			checkWithout(t, c, l, all, func(j int) bool { return idle(all[j]) })
			checkWithout(t, c, l, all, func(j int) bool { return counted(all[j]) })
			checkWithout(t, c, l, all, func(j int) bool { return idle(all[j]) && !counted(all[j]) })
		})
	}
}

// 26.6: the state is the same behind what was refused but for its count, and
// wholly behind an OpDequeue that found nothing or came too early.
func TestRefusedState(t *testing.T) {
	each(t, config(), func(t *testing.T, c api.Config) {
		s := made(t, c)
		seen := map[api.Errno]bool{}
		for _, x := range anyOps(c, 6, 3000) {
			want := s.State()
			r := s.Do(x)
			seen[r.Code] = true
			if counted(r) {
				want.Refused[r.Code]++
			}
			if st := s.State(); idle(r) && !same(st, want) {
				t.Fatalf("%v with %d: State is %v, not %v", x, r.Code, st, want)
			}
		}
		for _, err := range []api.Errno{api.OK, api.ErrBad, api.ErrShort, api.ErrLen, api.ErrFlow, api.ErrPackets, api.ErrEmpty, api.ErrNotYet} {
			if !seen[err] {
				t.Errorf("none was %d", err)
			}
		}
	})
}

// 11.3: looking, as OpStats, State and an OpDequeue that comes too early do,
// turns nothing that can be seen.
func TestLooking(t *testing.T) {
	for i, c := range extremes()[:5] {
		each(t, c, func(t *testing.T, c api.Config) {
			l := wideOps(c, uint64(113+i), 400)
			want := replies(t, c, l)
			s, m := made(t, c), newModel(c)
			for j, x := range l {
				s.State()
				s.Do(stats)
				if _, err := m.head(); err != api.OK {
					s.Do(out)
				}
				m.do(x)
				if r := s.Do(x); r != want[j] {
					t.Fatalf("%d: %v is %v, not %v", j, x, r, want[j])
				}
			}
		})
	}
}

// 12.6: with queues, where ranks never fall packets leave in the order in which
// they came, as from a heap.
func TestQueuesRising(t *testing.T) {
	for _, rank := range []int{api.RankSTFQ, api.RankEDF} {
		for i, c := range append(extremes(), config()) {
			c.Rank, c.Flows = rank, c.Flows[:1]
			l := wideOps(c, uint64(i), 2000)
			want := replies(t, c, l)
			checkFIFO(t, want)
			for _, d := range inQueues(c) {
				if got := replies(t, d, l); !slices.Equal(got, want) {
					t.Fatalf("%s: the replies are not those of a heap", name(d))
				}
			}
		}
	}
	// Flows with the same Budget.
	c := config()
	c.Rank = api.RankEDF
	for i := range c.Flows {
		c.Flows[i].Budget = 50
	}
	l := anyOps(c, 126, 3000)
	want := replies(t, c, l)
	checkFIFO(t, want)
	for _, d := range inQueues(c) {
		if got := replies(t, d, l); !slices.Equal(got, want) {
			t.Fatalf("%s: the replies are not those of a heap", name(d))
		}
	}
}

// checkFIFO checks that what left came in this order.
func checkFIFO(t *testing.T, l []api.Reply) {
	t.Helper()
	var wait []api.Packet
	for i, r := range l {
		switch {
		case r.Code != api.OK:
		case r.Kind == api.OpEnqueue:
			wait = append(wait, r.Packet)
		case r.Kind == api.OpDequeue:
			if wait[0] != r.Packet {
				t.Fatalf("%d: %v left, and not %v", i, r, wait[0])
			}
			wait = wait[1:]
		}
	}
}

// 12.7: from one queue packets leave in the order in which they came, whatever
// their ranks are.
func TestOneQueue(t *testing.T) {
	for i, c := range append(extremes(), config()) {
		for rank := api.RankSTFQ; rank <= api.RankSRS; rank++ {
			c.Rank, c.Back, c.Queues = rank, api.BackQueues, 1
			checkFIFO(t, replies(t, c, wideOps(c, uint64(i), 3000)))
		}
	}
}

// 16.3: the ranks of a flow never fall, or never rise with RankSRS.
func TestRanksOfFlow(t *testing.T) {
	for i, c := range append(extremes(), config()) {
		for rank := api.RankSTFQ; rank <= api.RankSRS; rank++ {
			c.Rank = rank
			for _, d := range inOrder(c) {
				before := map[uint32]uint64{}
				for j, r := range replies(t, d, wideOps(c, uint64(i), 2000)) {
					if r.Kind != api.OpEnqueue || r.Code != api.OK {
						continue
					}
					id := r.Packet.Flow
					if b, ok := before[id]; ok && (rank != api.RankSRS && r.Rank < b || rank == api.RankSRS && r.Rank > b) {
						t.Fatalf("%s: %d: the rank is %d behind %d", name(d), j, r.Rank, b)
					}
					before[id] = r.Rank
				}
			}
		}
	}
}

// 16.4: the rank of a packet is at least the virtual time, which is the rank of
// what left last; also where an approximate backend lets it go back.
func TestVirtualTime(t *testing.T) {
	for i, c := range append(extremes(), config()) {
		c.Rank = api.RankSTFQ
		for _, d := range backs(c) {
			var virtual uint64
			s := made(t, d)
			for j, x := range wideOps(c, uint64(i), 1000) {
				r := s.Do(x)
				if r.Code == api.OK && r.Kind == api.OpEnqueue && r.Rank < virtual {
					t.Fatalf("%s: %d: the rank is %d, the virtual time %d", name(d), j, r.Rank, virtual)
				}
				if r.Code == api.OK && r.Kind == api.OpDequeue {
					virtual = r.Rank
				}
				if got := s.State().Virtual; got != virtual {
					t.Fatalf("%s: %d: the virtual time is %d, not %d", name(d), j, got, virtual)
				}
			}
		}
	}
}

// 20.3: between any two times at most Burst bytes leave, and Rate more for each
// tick in between.
func TestConformance(t *testing.T) {
	each(t, config(), func(t *testing.T, c api.Config) {
		for _, c.Rate = range []uint64{1, 2, 7, most} {
			var now uint64
			var times, lens []uint64
			l := anyOps(c, c.Rate, 1500)
			for i, r := range replies(t, c, l) {
				if l[i].Kind == api.OpTick {
					now += l[i].Ticks
				}
				if r.Kind == api.OpDequeue && r.Code == api.OK {
					times, lens = append(times, now), append(lens, r.Packet.Len)
				}
			}
			for i := range times {
				var bytes uint64
				for j := i; j < len(times); j++ {
					bytes += lens[j]
					high, low := bits.Mul64(c.Rate, times[j]-times[i])
					low, carry := bits.Add64(low, c.Burst, 0)
					if high+carry == 0 && bytes > low {
						t.Fatalf("%d bytes left in %d ticks", bytes, times[j]-times[i])
					}
				}
			}
		}
	})
}

// 20.2: a packet leaves as soon as there are as many tokens as it has bytes, and
// not before, however time is divided.
func TestLeavesInTime(t *testing.T) {
	for _, c := range backs(config()) {
		for _, c.Rate = range []uint64{1, 2, 3, 11} {
			for n := uint64(1); n <= 10; n++ {
				p := newPair(t, c)
				p.do(in(1, 1, 10))
				p.do(out) // 2 tokens are left
				p.do(in(7, 2, n))
				need := (max(n, 2) - 2 + c.Rate - 1) / c.Rate
				if need > 0 {
					q := loadPair(t, c, p.s.State())
					q.gives(tick(need-1), ticked)
					q.gives(out, stays(api.ErrNotYet))
				}
				q := loadPair(t, c, p.s.State())
				q.do(tick(need))
				if r := q.do(out); r.Packet.ID != 2 {
					t.Errorf("behind %d ticks: %v", need, r)
				}
				for range need {
					p.gives(out, stays(api.ErrNotYet))
					p.do(tick(1))
				}
				if r := p.do(out); r.Packet.ID != 2 {
					t.Errorf("behind %d single ticks: %v", need, r)
				}
			}
		}
	}
}

// 26.2: everything that came leaves, once and unchanged, with its rank.
func TestNothingIsLost(t *testing.T) {
	for i, c := range append(extremes(), config()) {
		each(t, c, func(t *testing.T, c api.Config) {
			s := made(t, c)
			l := wideOps(c, uint64(i), 1000)
			for range c.Packets {
				l = append(l, tick(10), out)
			}
			wait := map[api.Ranked]int{}
			for i, r := range s.Run(l) {
				switch {
				case r.Code != api.OK:
				case r.Kind == api.OpEnqueue:
					wait[at(r.Rank, r.Packet)]++
				case r.Kind == api.OpDequeue:
					x := at(r.Rank, r.Packet)
					if wait[x]--; wait[x] < 0 {
						t.Fatalf("%d: %v had not come", i, r)
					}
				}
			}
			for x, n := range wait {
				if n != 0 {
					t.Errorf("%v did not leave %d times", x, n)
				}
			}
		})
	}
}

// P2: the same is answered to the same, whatever other shapers do.
func TestSame(t *testing.T) {
	each(t, config(), func(t *testing.T, c api.Config) {
		l := anyOps(c, 2, 500)
		want := replies(t, c, l)
		a, b, other := made(t, c), made(t, c), made(t, c)
		for i, x := range l {
			other.Do(l[len(l)-1-i])
			if r := a.Do(x); r != want[i] {
				t.Fatalf("%d: %v is %v, not %v", i, x, r, want[i])
			}
			other.Do(x)
			if r := b.Do(x); r != want[i] {
				t.Fatalf("%d: %v is %v, not %v", i, x, r, want[i])
			}
		}
	})
}

// 26, the example; and the document's examples 1 to 7.
func TestExamples(t *testing.T) {
	c := api.Config{Rank: api.RankEDF, Levels: 1, Queues: 2, Packets: 9, Bytes: 90, Share: 9, MTU: 10, Rate: 1, Burst: 10, Flows: []api.Flow{{ID: 1, Budget: 10, Cap: 90}, {ID: 2, Budget: 20, Cap: 90}}}
	in1 := []api.Op{in(1, 1, 1), in(2, 2, 1), in(1, 3, 1)}
	for _, d := range backs(c) {
		p := newPair(t, d)
		for _, x := range in1 {
			p.do(x)
		}
		first := map[bool]uint32{true: 3, false: 1}[d.Back == api.BackQueues && d.Queues > 1]
		p.gives(out, went(1, first, 1, 10))
	}
	for _, d := range inOrder(c) {
		p := newPair(t, d)
		p.gives(in(2, 1, 1), came(2, 1, 1, 20))
		p.gives(in(1, 2, 1), came(1, 2, 1, 10))
		p.gives(out, went(1, 2, 1, 10))
		p.gives(out, went(2, 1, 1, 20))
	}
	c.Back, c.Queues = api.BackQueues, 1
	p := newPair(t, c)
	for _, x := range in1[1:] {
		p.do(x)
	}
	p.gives(out, went(2, 2, 1, 20))
	for _, d := range backs(c) {
		p := newPair(t, d)
		p.gives(in(1, 1, 11), shut(1, 1, 11, api.ErrLen))
		p.gives(in(3, 1, 1), shut(3, 1, 1, api.ErrFlow))
		p.gives(in(3, 1, 0), shut(3, 1, 0, api.ErrLen))
		p.gives(in(1, 1, 10), came(1, 1, 10, 10))
		p.gives(in(1, 2, 1), came(1, 2, 1, 10))
		p.gives(out, went(1, 1, 10, 10))
		p.gives(out, stays(api.ErrNotYet))
		p.gives(tick(1), ticked)
		p.gives(out, went(1, 2, 1, 10))
		want := api.Stats{Now: 1}
		want.Refused[api.ErrLen], want.Refused[api.ErrFlow] = 2, 1
		p.gives(stats, api.Reply{Kind: api.OpStats, Stats: want})
	}
	// The ranks 2^64 - 1 and 0.
	c.Rank, c.Flows = api.RankSRS, []api.Flow{{ID: 1, Size: most, Cap: 90}, {ID: 2, Cap: 90}, {ID: 3, Size: 70000, Cap: 90}}
	for _, d := range inOrder(c) {
		p := newPair(t, d)
		p.do(in(3, 1, 1))
		p.gives(in(1, 2, 1), came(1, 2, 1, most))
		p.gives(in(2, 3, 1), came(2, 3, 1, 0))
		p.gives(out, went(2, 3, 1, 0))
		p.gives(out, went(3, 1, 1, 70000))
		p.gives(out, went(1, 2, 1, most))
	}
}
