package shaper

import (
	"slices"
	"testing"

	"pacemaker/api"
)

// at returns a packet with its rank.
func at(rank uint64, p api.Packet) api.Ranked {
	return api.Ranked{Rank: rank, Packet: p}
}

// checkState checks a state that is known.
func checkState(t *testing.T, s *Shaper, want api.State) {
	t.Helper()
	if st := s.State(); !same(st, want) {
		t.Fatalf("State is %v, not %v", st, want)
	}
}

// 26.3: the state behind each operation, with a backend in which packets wait
// in order.
func TestStateInOrder(t *testing.T) {
	for _, c := range inOrder(config()) {
		s := made(t, c)
		want := api.State{Tokens: 12, Tags: []uint64{0, 0, 0}, Queues: [][]api.Ranked{nil}}
		checkState(t, s, want)
		s.Do(in(1, 1, 10))
		want.Tags = []uint64{20, 0, 0}
		want.Queues = [][]api.Ranked{{at(0, packet(1, 1, 10))}}
		checkState(t, s, want)
		s.Do(in(1, 2, 5))
		want.Tags = []uint64{30, 0, 0}
		want.Queues[0] = append(want.Queues[0], at(20, packet(1, 2, 5)))
		checkState(t, s, want)
		s.Do(in(2, 3, 7))
		want.Tags = []uint64{30, 7, 0}
		want.Queues[0] = slices.Insert(want.Queues[0], 1, at(0, packet(2, 3, 7)))
		checkState(t, s, want)
		s.Do(in(2, 4, 0))
		want.Refused[api.ErrLen] = 1
		checkState(t, s, want)
		s.Do(out)
		want.Tokens = 2
		want.Queues[0] = want.Queues[0][1:]
		checkState(t, s, want)
		s.Do(out)
		s.Do(stats)
		checkState(t, s, want)
		s.Do(torn)
		s.Do(junk(1))
		want.Refused[api.ErrShort], want.Refused[api.ErrBad] = 1, 1
		checkState(t, s, want)
		s.Do(tick(5))
		want.Now, want.Tokens = 5, 12
		checkState(t, s, want)
		s.Do(out)
		s.Do(out)
		want.Tokens, want.Virtual = 0, 20
		want.Queues[0] = nil
		checkState(t, s, want)
		s.Do(in(7, 5, 1))
		want.Tags[2] = 20
		want.Queues[0] = []api.Ranked{at(20, packet(7, 5, 1))}
		checkState(t, s, want)
	}
}

// 26.3: the state behind each operation, with queues.
func TestStateQueues(t *testing.T) {
	c := config()
	c.Back, c.Rank = api.BackQueues, api.RankEDF
	s := made(t, c)
	want := api.State{Tokens: 12, Tags: []uint64{0, 0, 0}, Bounds: []uint64{0, 0}, Queues: [][]api.Ranked{nil, nil}}
	checkState(t, s, want)
	s.Do(in(1, 1, 10))
	want.Bounds = []uint64{0, 9}
	want.Queues[1] = []api.Ranked{at(9, packet(1, 1, 10))}
	checkState(t, s, want)
	s.Do(in(2, 2, 1))
	want.Bounds = []uint64{5, 9}
	want.Queues[0] = []api.Ranked{at(5, packet(2, 2, 1))}
	checkState(t, s, want)
	s.Do(in(7, 3, 2)) // pushed down by 5
	want.Bounds = []uint64{0, 4}
	want.Queues[0] = append(want.Queues[0], at(0, packet(7, 3, 2)))
	checkState(t, s, want)
	s.Do(tick(3))
	s.Do(in(2, 4, 3))
	want.Now = 3
	want.Bounds = []uint64{0, 8}
	want.Queues[1] = append(want.Queues[1], at(8, packet(2, 4, 3))) // behind a greater one
	checkState(t, s, want)
	s.Do(out)
	want.Tokens = 11
	want.Queues[0] = want.Queues[0][1:]
	checkState(t, s, want)
	s.Do(out)
	s.Do(out)
	want.Tokens = 9
	want.Queues[0] = nil
	checkState(t, s, want)
	s.Do(tick(1))
	s.Do(out)
	want.Now, want.Tokens = 4, 1
	want.Queues[1] = want.Queues[1][1:]
	checkState(t, s, want)
}

// 26.3 and 26.4: a shaper that was loaded with the state behind each operation
// has this state, and continues as the other one does.
func TestLoadState(t *testing.T) {
	for i, c := range []api.Config{config(), extremes()[0], extremes()[2]} {
		each(t, c, func(t *testing.T, c api.Config) {
			s := made(t, c)
			l := anyOps(c, uint64(26+i), 100)
			for i, x := range l {
				u := resumed(t, c, s.State())
				checkState(t, u, s.State())
				v := resumed(t, c, u.State()) // and once more
				s.Do(x)
				u.Run(l[i : i+1])
				checkState(t, u, s.State())
				if i%5 == 0 {
					rest := l[i:]
					if got, want := v.Run(rest), resumed(t, c, u.State()).Run(rest[1:]); !slices.Equal(got[1:], want) {
						t.Fatalf("the replies to %v are %v, not %v", rest[1:], got[1:], want)
					}
				}
			}
		})
	}
}

// 26.4: a shaper that is loaded anew again and again gives the same replies as
// one that is not.
func TestLoadOften(t *testing.T) {
	each(t, config(), func(t *testing.T, c api.Config) {
		l := anyOps(c, 264, 300)
		want := replies(t, c, l)
		s := made(t, c)
		for i, x := range l {
			if i%3 == 0 {
				s = resumed(t, c, s.State())
			}
			if got := s.Do(x); got != want[i] {
				t.Fatalf("%d: %v is %v, not %v", i, x, got, want[i])
			}
		}
	})
}

// 26.3: numbers of a state that no operations lead to, but that nothing rules
// out.
func TestLoadAnyNumbers(t *testing.T) {
	each(t, config(), func(t *testing.T, c api.Config) {
		for _, n := range []uint64{0, 1, 12, 1 << 32, most - 1, most} {
			st := newModel(c).st
			st.Now, st.Virtual, st.Tokens = n, n, min(n, c.Burst)
			for i := range st.Refused {
				st.Refused[i] = n - uint64(i)
			}
			for i := range st.Tags {
				st.Tags[i] = n + uint64(i)
			}
			for i := range st.Bounds {
				st.Bounds[i] = n
			}
			st.Queues[0] = []api.Ranked{at(n, packet(1, last, 10)), at(n, packet(7, 0, 1))}
			p := loadPair(t, c, st)
			for _, x := range anyOps(c, n, 50) {
				p.do(x)
			}
		}
	})
}

// fill lets packets wait in a state, in turn in all its lists.
func fill(st *api.State, l ...api.Packet) {
	for i, p := range l {
		j := i % len(st.Queues)
		st.Queues[j] = append(st.Queues[j], at(5, p))
	}
}

// 26.3: as much as may wait is loaded, whatever the shares of flows are; what is
// one more is not.
func TestLoadFull(t *testing.T) {
	each(t, config(), func(t *testing.T, c api.Config) {
		check := func(want api.Errno, l ...api.Packet) {
			t.Helper()
			st := newModel(c).st
			fill(&st, l...)
			if want != api.OK {
				checkArg(t, c, st)
				return
			}
			p := loadPair(t, c, st)
			for range 3 {
				p.do(in(1, 1, 1))
				p.do(in(7, 1, 1))
				p.do(tick(5))
				p.do(out)
			}
		}
		small := slices.Repeat([]api.Packet{packet(1, 1, 1), packet(2, 2, 2)}, 4)
		check(api.OK, small...)
		check(api.ErrArg, append(small, packet(7, 3, 1))...)
		own := slices.Repeat([]api.Packet{packet(1, 1, 10)}, 3)
		check(api.OK, own...)
		check(api.ErrArg, append(own, packet(1, 4, 1))...)
		check(api.ErrArg, append([]api.Packet{packet(1, 4, 1)}, own...)...)
		check(api.OK, append(own, packet(2, 4, 1))...)
		bytes := slices.Repeat([]api.Packet{packet(7, 1, 10)}, 6)
		check(api.OK, bytes...)
		check(api.ErrArg, append(bytes, packet(7, 1, 1))...)
		check(api.ErrArg, append(bytes, packet(2, 1, 1))...)
		check(api.ErrArg, append([]api.Packet{packet(1, 1, 1)}, bytes...)...)
		// Flow 7 has all bytes: its share is 0.
		c.Share = 0
		check(api.OK, bytes...)
	})
}

// checkArg checks that a state is refused.
func checkArg(t *testing.T, c api.Config, st api.State) {
	t.Helper()
	if s, err := Load(c, st); s != nil || err != api.ErrArg {
		t.Errorf("Load(%v, %v) is %v, %d", c, st, s, err)
	}
}

// busy is the state of a shaper that has done some things.
func busy(t *testing.T, c api.Config) api.State {
	t.Helper()
	s := made(t, c)
	s.Run([]api.Op{in(1, 1, 10), in(2, 2, 5), in(7, 3, 1), tick(2), out, in(2, 4, 6), junk(0)})
	return s.State()
}

// turn changes one thing of a state.
type turn func(st *api.State)

// checkTurns checks that each turn of a state that is allowed is refused.
func checkTurns(t *testing.T, c api.Config, l []turn) {
	t.Helper()
	for i, f := range l {
		for _, st := range []api.State{newModel(c).st, busy(t, c)} {
			resumed(t, c, st)
			f(&st)
			if s, err := Load(c, st); s != nil || err != api.ErrArg {
				t.Errorf("turn %d: Load(%v, %v) is %v, %d", i, c, st, s, err)
			}
		}
	}
}

// checkAllowed checks that no turn is refused.
func checkAllowed(t *testing.T, c api.Config, l []turn) {
	t.Helper()
	for _, f := range l {
		for _, st := range []api.State{newModel(c).st, busy(t, c)} {
			f(&st)
			loadPair(t, c, st)
		}
	}
}

// wait returns the turn that lets a packet wait behind all others of list i.
func wait(i int, p api.Packet) turn {
	return func(st *api.State) {
		st.Queues[i] = append(slices.Clone(st.Queues[i]), at(most, p))
	}
}

// 26.3: what any state is refused for, one thing at a time.
func TestLoadArg(t *testing.T) {
	each(t, config(), func(t *testing.T, c api.Config) {
		end := len(newModel(c).st.Queues) - 1
		wrong := []turn{
			func(st *api.State) { st.Tokens = 13 },
			func(st *api.State) { st.Tokens = most },
			func(st *api.State) { st.Tags = nil },
			func(st *api.State) { st.Tags = []uint64{} },
			func(st *api.State) { st.Tags = st.Tags[:2] },
			func(st *api.State) { st.Tags = append(st.Tags, 0) },
			func(st *api.State) { st.Tags = make([]uint64, 1000) },
			func(st *api.State) { st.Queues = nil },
			func(st *api.State) { st.Queues = append(st.Queues, nil) },
			func(st *api.State) { st.Queues = append(st.Queues, []api.Ranked{at(most, packet(1, 1, 1))}) },
			func(st *api.State) { st.Queues = append([][]api.Ranked{nil}, st.Queues...) },
			func(st *api.State) { st.Queues = make([][]api.Ranked, 1000) },
			func(st *api.State) { *st = api.State{} },
		}
		for _, i := range []int{0, end} {
			wrong = append(wrong, wait(i, api.Packet{}), wait(i, packet(1, 1, 0)), wait(i, packet(1, 1, 11)), wait(i, packet(7, 1, 1<<32+1)), wait(i, packet(1, 1, most)), wait(i, packet(0, 1, 1)), wait(i, packet(3, 1, 1)), wait(i, packet(last, 1, 1)))
		}
		checkTurns(t, c, wrong)
		checkAllowed(t, c, []turn{
			func(st *api.State) { st.Tokens = 12 },
			func(st *api.State) { st.Tokens = 0 },
			func(st *api.State) { st.Tags = []uint64{most, 0, most} },
			wait(0, packet(1, 1, 10)), wait(end, packet(7, last, 1)),
		})
	})
}

// 26.3: what the state of a heap or a calendar is refused for.
func TestLoadArgInOrder(t *testing.T) {
	ranks := func(l ...uint64) turn {
		return func(st *api.State) {
			st.Queues = [][]api.Ranked{nil}
			for i, rank := range l {
				st.Queues[0] = append(st.Queues[0], at(rank, packet(1, uint32(i), 1)))
			}
		}
	}
	for rank := api.RankSTFQ; rank <= api.RankSRS; rank++ {
		for _, c := range inOrder(config()) {
			c.Rank = rank
			checkTurns(t, c, []turn{
				func(st *api.State) { st.Bounds = []uint64{0} },
				func(st *api.State) { st.Bounds = []uint64{0, 0} },
				func(st *api.State) { st.Bounds = []uint64{most} },
				func(st *api.State) { st.Queues = [][]api.Ranked{} },
				func(st *api.State) { st.Queues = [][]api.Ranked{nil, nil} },
				func(st *api.State) { st.Bounds, st.Queues = []uint64{0, 0}, [][]api.Ranked{nil, nil} },
				ranks(1, 0), ranks(most, most-1), ranks(most, 0), ranks(1<<32, 1), ranks(5, 5, 4), ranks(5, 4, 5), ranks(0, 1, 2, 3, 4, 5, 6, 5), ranks(1<<63, 1<<63-1),
			})
			checkAllowed(t, c, []turn{
				func(st *api.State) { st.Bounds = []uint64{} },
				ranks(), ranks(most), ranks(5, 5, 5), ranks(0, 0, 1, 1<<32, 1<<63, most, most), ranks(0, 1, 2, 3, 4, 5, 6, 6),
			})
		}
	}
}

// 26.3: what the state of queues is refused for; ranks may fall there.
func TestLoadArgQueues(t *testing.T) {
	bound := func(i int, n uint64) turn { return func(st *api.State) { st.Bounds[i] = n } }
	for _, c := range inQueues(config()) {
		end := c.Queues - 1
		wrong := []turn{
			func(st *api.State) { st.Bounds = nil },
			func(st *api.State) { st.Bounds = []uint64{} },
			func(st *api.State) { st.Bounds = st.Bounds[:end] },
			func(st *api.State) { st.Bounds = append(st.Bounds, most) },
			func(st *api.State) { st.Queues = st.Queues[:end] },
			func(st *api.State) { st.Queues = st.Queues[1:] },
			func(st *api.State) { st.Bounds, st.Queues = st.Bounds[:end], st.Queues[:end] },
			func(st *api.State) { st.Bounds, st.Queues = append(st.Bounds, most), append(st.Queues, nil) },
		}
		right := []turn{
			bound(end, most),
			func(st *api.State) { st.Bounds = slices.Repeat([]uint64{most}, c.Queues) },
			func(st *api.State) { st.Bounds = slices.Repeat([]uint64{7}, c.Queues) },
			func(st *api.State) {
				st.Queues[end] = []api.Ranked{at(most, packet(1, 1, 1)), at(0, packet(1, 2, 1)), at(9, packet(1, 3, 1))}
			},
			func(st *api.State) { st.Queues[0] = []api.Ranked{at(9, packet(1, 1, 1)), at(8, packet(1, 2, 1))} },
		}
		if c.Queues > 1 {
			wrong = append(wrong, bound(0, most), bound(0, 1<<32), func(st *api.State) { st.Bounds[end-1], st.Bounds[end] = most, most-1 }, func(st *api.State) { clear(st.Bounds); st.Bounds[end-1] = 1 })
		}
		checkTurns(t, c, wrong)
		checkAllowed(t, c, right)
	}
}

// 26.3: for one backend the state of another one is refused, but for a heap and
// calendars; so is that of a configuration with more flows.
func TestLoadOther(t *testing.T) {
	for _, c := range backs(config()) {
		for _, d := range backs(config()) {
			st := busy(t, d)
			if c.Back == d.Back && (c.Back != api.BackQueues || c.Queues == d.Queues) || c.Back != api.BackQueues && d.Back != api.BackQueues {
				checkState(t, resumed(t, c, st), st)
			} else {
				checkArg(t, c, st)
			}
		}
		d := c
		d.Flows = append(slices.Clone(c.Flows), api.Flow{ID: 8})
		st := busy(t, d)
		checkState(t, resumed(t, d, st), st)
		checkArg(t, c, st)
	}
}

// P2, ownership: what is given is neither changed nor kept.
func TestGiven(t *testing.T) {
	each(t, config(), func(t *testing.T, c api.Config) {
		flows := slices.Clone(c.Flows)
		c.Flows = slices.Clone(flows)
		st := busy(t, c)
		given := copied(st)
		s, u := made(t, c), resumed(t, c, given)
		if !slices.Equal(c.Flows, flows) || !same(given, st) {
			t.Fatalf("%v and %v were changed", c, given)
		}
		l := anyOps(c, 3, 200)
		ops := slices.Clone(l)
		clear(c.Flows)
		clear(given.Tags)
		clear(given.Bounds)
		for _, q := range given.Queues {
			clear(q)
		}
		clear(given.Queues)
		c.Flows = flows
		p, q := &pair{t, s, newModel(c)}, &pair{t, u, loaded(c, st)}
		for _, x := range l {
			p.do(x)
			q.do(x)
		}
		s.Run(ops)
		if !slices.Equal(ops, l) {
			t.Error("the operations were changed")
		}
	})
}

// P2, ownership: results are new memory.
func TestResults(t *testing.T) {
	each(t, config(), func(t *testing.T, c api.Config) {
		p := newPair(t, c)
		for _, x := range anyOps(c, 4, 300) {
			p.do(x)
			st, other := p.s.State(), p.s.State()
			clear(st.Tags)
			clear(st.Bounds)
			for i, q := range st.Queues {
				clear(q)
				st.Queues[i] = append(q, at(1, packet(1, 1, 1)))
			}
			if !same(other, p.m.st) {
				t.Fatalf("the other state became %v", other)
			}
			p.check()
		}
		l := []api.Op{stats, stats}
		first := p.s.Run(l)
		want := slices.Clone(first)
		clear(p.s.Run(l))
		p.do(tick(1))
		if !slices.Equal(first, want) {
			t.Errorf("the replies became %v", first)
		}
		// No two lists of a state share memory.
		st := busy(t, c)
		want2 := copied(st)
		for i := range st.Queues {
			_ = append(st.Queues[i], at(1, packet(1, 1, 1)))
		}
		_, _ = append(st.Tags, 77), append(st.Bounds, 77)
		if !same(st, want2) {
			t.Errorf("the state became %v", st)
		}
	})
}
