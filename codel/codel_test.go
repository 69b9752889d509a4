package codel

import (
	"math/big"
	"testing"

	"pacemaker/api"
)

const (
	most    = api.MaxU64
	longest = 1 << 31 // the longest Interval
)

var plain = Conf{Target: 5, Interval: 100, MTU: 10}

// 19.1
func TestCheck(t *testing.T) {
	for _, other := range []uint64{0, 1, 5, longest, longest + 1, 1 << 40, most} {
		for _, more := range []uint64{0, 1500, 65536, most} {
			for _, interval := range []uint64{1, 2, 100, 1 << 20, longest - 1, longest} {
				if err := Check(Conf{other, interval, more}); err != api.OK {
					t.Errorf("Check is %d with the Interval %d", err, interval)
				}
			}
			for _, interval := range []uint64{0, longest + 1, longest + 2, 1 << 32, 1<<32 + 1, 1 << 63, most} {
				if err := Check(Conf{other, interval, more}); err != api.ErrArg {
					t.Errorf("Check is %d with the Interval %d", err, interval)
				}
			}
		}
	}
}

// 19.2: nothing is done with a configuration that is not valid.
func TestNotValid(t *testing.T) {
	for _, interval := range []uint64{0, longest + 1, 1<<32 + 1, most} {
		for _, s := range []State{{}, {First: 5}, {First: 5, Next: 8, Count: 3, Last: 1, Dropping: true}, {Next: 7, Count: most, Last: most}, {most, most, most, most, true}} {
			for _, now := range []uint64{0, 5, 100, most} {
				for _, waited := range []uint64{0, 4, 5, most} {
					for _, behind := range []uint64{0, 10, 11, most} {
						if got, dropped := Step(Conf{5, interval, 10}, s, now, waited, behind); got != s || dropped {
							t.Errorf("Step is %v, %t with the Interval %d", got, dropped, interval)
						}
					}
				}
			}
		}
	}
}

func big64(x uint64) *big.Int { return new(big.Int).SetUint64(x) }

// sum returns a + b, or the greatest number if that is less.
func sum(a, b uint64) uint64 {
	x := new(big.Int).Add(big64(a), big64(b))
	if !x.IsUint64() {
		return most
	}
	return x.Uint64()
}

// difference returns a - b, but at least 0.
func difference(a, b uint64) uint64 {
	return a - min(a, b)
}

// part returns base divided by the root of count (2.2).
func part(base, count uint64) uint64 {
	if count == 0 {
		return base
	}
	square := new(big.Int).Mul(big64(base), big64(base))
	square.Div(square, big64(count))
	return square.Sqrt(square).Uint64()
}

// model does what Step should, sentence by sentence.
func model(c Conf, s State, now, waited, behind uint64) (State, bool) {
	late := waited >= c.Target && behind > c.MTU
	time := late && s.First != 0 && now >= s.First
	next := s
	if !late {
		next.First = 0
	}
	if late && s.First == 0 {
		next.First = sum(now, c.Interval)
	}
	if s.Dropping {
		if !time {
			next.Dropping = false
			return next, false
		}
		if now >= s.Next {
			next.Count = sum(s.Count, 1)
			next.Next = sum(s.Next, part(c.Interval, next.Count))
			return next, true
		}
		return next, false
	}
	if !time {
		return next, false
	}
	next.Dropping = true
	next.Count = 1
	if d := difference(s.Count, s.Last); d > 1 && difference(now, s.Next) < 16*c.Interval {
		next.Count = d
	}
	next.Next = sum(now, part(c.Interval, next.Count))
	next.Last = next.Count
	return next, true
}

// step does a step, and tells whether it does what it should.
func step(t *testing.T, c Conf, s State, now, waited, behind uint64) (State, bool) {
	t.Helper()
	was := s
	got, dropped := Step(c, s, now, waited, behind)
	want, is := model(c, s, now, waited, behind)
	if got != want || dropped != is {
		t.Fatalf("Step(%v, %+v, %d, %d, %d) is %+v, %t, not %+v, %t", c, s, now, waited, behind, got, dropped, want, is)
	}
	if s != was {
		t.Fatalf("the state %+v became %+v", was, s)
	}
	if dropped && waited < c.Target { // 19.4
		t.Fatalf("a packet is dropped that waited %d, less than %d", waited, c.Target)
	}
	return got, dropped
}

// move is a packet that leaves, and what is made of it.
type move struct {
	c                   Conf
	s                   State
	now, waited, behind uint64
	want                State
	dropped             bool
}

// do tells whether packets are handled as was worked out by hand.
func do(t *testing.T, l []move) {
	t.Helper()
	for i, x := range l {
		got, dropped := step(t, x.c, x.s, x.now, x.waited, x.behind)
		if got != x.want || dropped != x.dropped {
			t.Errorf("%d: Step is %+v, %t, not %+v, %t", i, got, dropped, x.want, x.dropped)
		}
	}
}

// 19.2: a packet that waited just Target and one less, and behind which there
// are just MTU bytes and one more.
func TestLate(t *testing.T) {
	early, late := State{Next: 7, Count: 3, Last: 2}, State{First: 150, Next: 7, Count: 3, Last: 2}
	all := State{First: 150}
	do(t, []move{
		{plain, early, 50, 5, 11, late, false}, {plain, early, 50, 4, 11, early, false}, {plain, early, 50, 5, 10, early, false},
		{plain, early, 50, 6, 12, late, false}, {plain, early, 50, 0, 0, early, false}, {plain, early, 50, most, most, late, false},
		{plain, early, 50, most, 10, early, false}, {plain, early, 50, 4, most, early, false}, {plain, early, 50, 4, 10, early, false},
		// A First that was not 0 stays, or becomes 0.
		{plain, late, 149, 5, 11, late, false}, {plain, late, 149, 4, 11, early, false}, {plain, late, 149, 5, 10, early, false}, {plain, late, 151, 4, 11, early, false}, {plain, late, 151, 5, 10, early, false},
		{Conf{0, 100, 0}, State{}, 50, 0, 1, all, false}, {Conf{0, 100, 0}, all, 150, 0, 0, State{}, false}, {Conf{0, 100, most}, all, 150, most, most, State{}, false},
		{Conf{most, 100, most - 1}, State{}, 50, most, most, all, false}, {Conf{most, 100, 0}, all, 150, most - 1, most, State{}, false},
	})
}

// 19.2: now is before First, just First and after it.
func TestFirst(t *testing.T) {
	s := State{First: 100}
	begun := func(now uint64) State { return State{First: 100, Next: now + 100, Count: 1, Last: 1, Dropping: true} }
	do(t, []move{
		{plain, State{}, 0, 9, 50, s, false}, {plain, s, 0, 9, 50, s, false}, {plain, s, 1, 9, 50, s, false}, {plain, s, 99, 9, 50, s, false},
		{plain, s, 100, 9, 50, begun(100), true}, {plain, s, 101, 9, 50, begun(101), true}, {plain, s, 1 << 60, 9, 50, begun(1 << 60), true},
		{plain, s, 100, 4, 50, State{}, false}, {plain, s, 101, 9, 10, State{}, false},
		// A First of 0 is none, whatever the time is.
		{plain, State{}, 1, 9, 50, State{First: 101}, false}, {plain, State{}, 1 << 60, 9, 50, State{First: 1<<60 + 100}, false},
		{plain, State{First: 1}, 0, 9, 50, State{First: 1}, false}, {plain, State{First: 1}, 1, 9, 50, State{First: 1, Next: 101, Count: 1, Last: 1, Dropping: true}, true},
	})
}

// 19.3: if Dropping is true.
func TestDropping(t *testing.T) {
	s := State{First: 100, Next: 200, Count: 1, Last: 1, Dropping: true}
	same := State{First: 100, Next: 200, Count: 1, Last: 1}
	more := State{First: 100, Next: 270, Count: 2, Last: 1, Dropping: true}
	do(t, []move{
		// It is not time.
		{plain, s, 150, 4, 50, State{Next: 200, Count: 1, Last: 1}, false}, {plain, s, 200, 4, 50, State{Next: 200, Count: 1, Last: 1}, false}, {plain, s, 200, 9, 10, State{Next: 200, Count: 1, Last: 1}, false},
		{plain, s, 99, 9, 50, same, false}, {plain, State{First: 300, Next: 200, Dropping: true}, 299, 9, 50, State{First: 300, Next: 200}, false},
		{plain, State{Next: 200, Count: 5, Last: 6, Dropping: true}, 250, 9, 50, State{First: 350, Next: 200, Count: 5, Last: 6}, false},
		// It is time, before Next, at Next and after it.
		{plain, s, 100, 9, 50, s, false}, {plain, s, 150, 9, 50, s, false}, {plain, s, 199, 9, 50, s, false},
		{plain, s, 200, 9, 50, more, true}, {plain, s, 201, 9, 50, more, true}, {plain, s, 1 << 50, 9, 50, more, true}, {plain, s, most, 9, 50, more, true},
		{plain, more, 269, 9, 50, more, false}, {plain, more, 270, 9, 50, State{100, 327, 3, 1, true}, true},
		{plain, State{100, 327, 3, 1, true}, 327, 9, 50, State{100, 377, 4, 1, true}, true},
		// Counts with which Next does not change any more, and those that no Step returned.
		{plain, State{100, 327, 9998, 1, true}, 327, 9, 50, State{100, 328, 9999, 1, true}, true}, {plain, State{100, 327, 9999, 1, true}, 327, 9, 50, State{100, 328, 10000, 1, true}, true},
		{plain, State{100, 327, 10000, 1, true}, 327, 9, 50, State{100, 327, 10001, 1, true}, true}, {plain, State{100, 327, most - 1, 1, true}, 327, 9, 50, State{100, 327, most, 1, true}, true},
		{plain, State{100, 327, most, 1, true}, 327, 9, 50, State{100, 327, most, 1, true}, true}, {plain, State{100, 0, 0, 1, true}, 327, 9, 50, State{100, 100, 1, 1, true}, true},
	})
}

// 19.3: if Dropping is false.
func TestBegin(t *testing.T) {
	begun := func(now, part, count uint64) State {
		return State{First: 100, Next: now + part, Count: count, Last: count, Dropping: true}
	}
	do(t, []move{
		{plain, State{100, 327, 3, 1, false}, 99, 9, 50, State{100, 327, 3, 1, false}, false}, {plain, State{100, 327, 3, 1, false}, 400, 4, 50, State{0, 327, 3, 1, false}, false},
		{plain, State{0, 327, 3, 1, false}, 400, 9, 50, State{500, 327, 3, 1, false}, false},
		// Count - Last is 2, 3, 1, 0, and below 0.
		{plain, State{100, 327, 3, 1, false}, 400, 9, 50, begun(400, 70, 2), true}, {plain, State{100, 327, 4, 1, false}, 400, 9, 50, begun(400, 57, 3), true},
		{plain, State{100, 327, 2, 1, false}, 400, 9, 50, begun(400, 100, 1), true}, {plain, State{100, 327, 2, 2, false}, 400, 9, 50, begun(400, 100, 1), true},
		{plain, State{100, 327, 1, 2, false}, 400, 9, 50, begun(400, 100, 1), true}, {plain, State{100, 327, 0, most, false}, 400, 9, 50, begun(400, 100, 1), true},
		{plain, State{100, 327, 0, 0, false}, 400, 9, 50, begun(400, 100, 1), true}, {plain, State{100, 327, 2, 0, false}, 400, 9, 50, begun(400, 70, 2), true},
		{plain, State{100, 327, most, 0, false}, 400, 9, 50, begun(400, 0, most), true}, {plain, State{100, 327, most, most - 2, false}, 400, 9, 50, begun(400, 70, 2), true},
		{plain, State{100, 327, 10001, 1, false}, 400, 9, 50, begun(400, 1, 10000), true}, {plain, State{100, 327, 10002, 1, false}, 400, 9, 50, begun(400, 0, 10001), true},
		// now - Next is just less than 16 * Interval, just as much and more.
		{plain, State{100, 327, 9, 1, false}, 327 + 1599, 9, 50, begun(1926, 35, 8), true}, {plain, State{100, 327, 9, 1, false}, 327 + 1600, 9, 50, begun(1927, 100, 1), true},
		{plain, State{100, 327, 9, 1, false}, 327 + 1601, 9, 50, begun(1928, 100, 1), true}, {plain, State{100, 327, 2, 1, false}, 327 + 1600, 9, 50, begun(1927, 100, 1), true},
		{Conf{5, longest, 10}, State{100, 500, 5, 1, false}, 500 + 16*longest - 1, 9, 50, begun(500+16*longest-1, longest/2, 4), true},
		{Conf{5, longest, 10}, State{100, 500, 5, 1, false}, 500 + 16*longest, 9, 50, begun(500+16*longest, longest, 1), true},
		{Conf{5, 1, 10}, State{100, 500, 5, 1, false}, 515, 9, 50, begun(515, 0, 4), true}, {Conf{5, 1, 10}, State{100, 500, 5, 1, false}, 516, 9, 50, begun(516, 1, 1), true},
		// now is before Next.
		{plain, State{100, 327, 9, 1, false}, 326, 9, 50, begun(326, 35, 8), true}, {plain, State{100, 327, 9, 1, false}, 100, 9, 50, begun(100, 35, 8), true},
		{plain, State{100, most, 9, 1, false}, 100, 9, 50, begun(100, 35, 8), true}, {plain, State{100, 327, 9, 1, false}, 327, 9, 50, begun(327, 35, 8), true},
	})
}

// 19.2, 19.3: sums are capped.
func TestCapped(t *testing.T) {
	full := State{First: most}
	do(t, []move{
		{plain, State{}, most - 101, 9, 50, State{First: most - 1}, false}, {plain, State{}, most - 100, 9, 50, full, false}, {plain, State{}, most - 99, 9, 50, full, false}, {plain, State{}, most, 9, 50, full, false},
		{Conf{5, longest, 10}, State{}, most - longest + 1, 9, 50, full, false},
		{plain, full, most - 1, 9, 50, full, false}, {plain, full, most, 9, 50, State{most, most, 1, 1, true}, true},
		{plain, State{100, 0, 0, 0, false}, most - 101, 9, 50, State{100, most - 1, 1, 1, true}, true}, {plain, State{100, 0, 0, 0, false}, most - 100, 9, 50, State{100, most, 1, 1, true}, true},
		{plain, State{100, 0, 0, 0, false}, most - 50, 9, 50, State{100, most, 1, 1, true}, true},
		{plain, State{100, most - 100, 1, 1, true}, most, 9, 50, State{100, most - 30, 2, 1, true}, true}, {plain, State{100, most - 30, 2, 1, true}, most, 9, 50, State{100, most, 3, 1, true}, true},
		{plain, State{100, most, 3, 1, true}, most, 9, 50, State{100, most, 4, 1, true}, true}, {plain, State{100, most, 3, 1, true}, most - 1, 9, 50, State{100, most, 3, 1, true}, false},
		{plain, State{most, most, most, most, true}, most, most, most, State{most, most, most, most, true}, true},
	})
}

// around returns the numbers at and next to these.
func around(l ...uint64) []uint64 {
	var all []uint64
	for _, x := range l {
		all = append(all, difference(x, 1), x, sum(x, 1))
	}
	return all
}

// 19.2, 19.3: all states that differ somewhere, also those that no Step returned.
func TestStepAll(t *testing.T) {
	for _, c := range []Conf{plain, {0, 1, 0}, {0, longest, 0}, {most, 7, most}, {5, longest, 1500}, {1 << 40, 1 << 20, 65535}} {
		for _, first := range []uint64{0, 1, 2, 1000, most - 1, most} {
			for _, next := range []uint64{0, 1, 500, 1000, 1 << 40, most - c.Interval, most} {
				for _, count := range [][2]uint64{{0, 0}, {1, 0}, {1, 1}, {2, 0}, {3, 1}, {3, 2}, {2, 3}, {0, most}, {most, 0}, {most, most}, {1 << 62, 5}} {
					for _, now := range append(around(first, next, sum(next, 16*c.Interval)), 0, most) {
						for _, dropping := range []bool{false, true} {
							s := State{first, next, count[0], count[1], dropping}
							step(t, c, s, now, c.Target, sum(c.MTU, 1))
							step(t, c, s, now, c.Target, c.MTU)
							step(t, c, s, now, difference(c.Target, 1), sum(c.MTU, 1))
							step(t, c, s, now, most, most)
						}
					}
				}
			}
		}
	}
}

// 19.2, 19.3, the chapter's example.
func TestExample(t *testing.T) {
	s := State{}
	for _, x := range []struct {
		now     uint64
		dropped bool
	}{{0, false}, {50, false}, {99, false}, {100, true}, {100, false}, {150, false}, {199, false}, {200, true}, {200, false}, {269, false}, {270, true}} {
		var dropped bool
		if s, dropped = step(t, plain, s, x.now, 9, 50); dropped != x.dropped {
			t.Errorf("dropped is %t at %d", dropped, x.now)
		}
	}
}

// 19.3: the longer all packets are late, the more of them are dropped: these are
// the times, with a packet at each time.
func TestTimes(t *testing.T) {
	want := []uint64{100, 200, 270, 327, 377, 421, 461, 498, 533, 566, 597, 627}
	s := State{}
	var got []uint64
	for now := range uint64(640) {
		var dropped bool
		if s, dropped = step(t, plain, s, now, 5, 11); dropped {
			got = append(got, now)
		}
	}
	if len(got) != len(want) {
		t.Fatalf("packets are dropped at %v, not %v", got, want)
	}
	for i, now := range want {
		if got[i] != now {
			t.Errorf("packets are dropped at %v, not %v", got, want)
		}
	}
}

// 19.3: after a row of drops the next one begins nearly where it ended, unless
// that was long ago.
func TestAgain(t *testing.T) {
	for _, x := range []struct{ gap, count uint64 }{{85, 11}, {100, 11}, {1599, 11}, {1600, 1}, {1601, 1}, {1 << 40, 1}} {
		s, now := State{}, uint64(0)
		for ; now < 640; now++ {
			s, _ = step(t, plain, s, now, 5, 11)
		}
		if s != (State{100, 655, 12, 1, true}) {
			t.Fatalf("the state is %+v", s)
		}
		s, _ = step(t, plain, s, now, 4, 11)
		s, _ = step(t, plain, s, 655+x.gap-100, 5, 11)
		var dropped bool
		if s, dropped = step(t, plain, s, 655+x.gap, 5, 11); !dropped || s.Count != x.count || s.Last != x.count {
			t.Errorf("%d after Next the state is %+v, %t", x.gap, s, dropped)
		}
	}
}

// rows calls f with many rows of late and other packets: with a configuration,
// a state that such a row left, and the time at which it did.
func rows(t *testing.T, f func(c Conf, s State, now uint64, next func(uint64) uint64)) {
	t.Helper()
	for _, c := range []Conf{plain, {0, 1, 0}, {1, 1, 1}, {5, 7, 100}, {1000, 100000, 1500}, {5, longest, 10}, {1 << 40, 1 << 20, 65535}} {
		for k := range uint64(60) {
			seed := k + c.Interval
			next := func(n uint64) uint64 {
				seed = seed*6364136223846793005 + 1442695040888963407
				return seed >> 30 % n
			}
			s, now := State{}, next(3)*next(1<<30)
			for range next(200) {
				now += next(c.Interval/(1+k%20) + 2)
				late := next(20) > k%4*6
				waited, behind := c.Target+next(50), c.MTU+1+next(50)
				if !late && (c.Target == 0 || next(2) == 0) {
					behind = next(c.MTU + 1)
				} else if !late {
					waited = next(c.Target)
				}
				s, _ = step(t, c, s, now, waited, behind)
			}
			f(c, s, now, next)
		}
	}
}

// 19.4: in rows in which no packet waited for Target none is dropped, whatever
// was before.
func TestNoneIsLate(t *testing.T) {
	rows(t, func(c Conf, s State, now uint64, next func(uint64) uint64) {
		if c.Target == 0 {
			return
		}
		for range 300 {
			now += next(c.Interval)
			var dropped bool
			if s, dropped = step(t, c, s, now, next(c.Target), next(1<<33)); dropped || s.First != 0 || s.Dropping {
				t.Fatalf("at %d the state is %+v, %t", now, s, dropped)
			}
		}
	})
}

// 19.4, also with states that no Step returned.
func TestNoneIsLateInAnyState(t *testing.T) {
	for _, s := range []State{{}, {1, 0, 0, 0, true}, {1, 1, 9, 2, false}, {0, 0, 0, 0, true}, {most, most, most, most, true}, {5, 5, 5, 5, true}} {
		for _, now := range []uint64{0, 1, 5, 100, 1 << 40, most} {
			for _, waited := range []uint64{0, 1, 4} {
				for _, behind := range []uint64{0, 10, 11, most} {
					if _, dropped := step(t, plain, s, now, waited, behind); dropped {
						t.Errorf("a packet that waited %d is dropped in %+v at %d", waited, s, now)
					}
				}
			}
		}
	}
}

// 19.5: if all packets are late from a certain time on, none is dropped before
// that time plus Interval, and the first one from then on is.
func TestAllAreLate(t *testing.T) {
	rows(t, func(c Conf, s State, now uint64, next func(uint64) uint64) {
		s, _ = step(t, c, s, now, most, 0) // not late
		now += next(50)
		from := now
		for {
			var dropped bool
			s, dropped = step(t, c, s, now, c.Target+next(3), c.MTU+1+next(3))
			if dropped != (now >= from+c.Interval) {
				t.Fatalf("with %v, all late from %d on, at %d dropped is %t", c, from, now, dropped)
			}
			if dropped {
				return
			}
			now += next(c.Interval/5 + 2)
			if next(8) == 0 { // just before that time, or at it
				now = max(now, from+c.Interval-next(2))
			}
		}
	})
}

// 19.5: from the beginning on.
func TestAllAreLateFromTheBeginning(t *testing.T) {
	for _, interval := range []uint64{1, 2, 100, longest - 1, longest} {
		for _, from := range []uint64{0, 1, 77, 1 << 50} {
			for _, at := range []uint64{from + interval, from + interval + 1, from + 3*interval} {
				c := Conf{5, interval, 10}
				s, dropped := step(t, c, State{}, from, 5, 11)
				if dropped {
					t.Errorf("dropped at %d", from)
				}
				if s, dropped = step(t, c, s, from+interval-1, 5, 11); dropped {
					t.Errorf("dropped at %d", from+interval-1)
				}
				if s, dropped = step(t, c, s, at, 5, 11); !dropped || !s.Dropping {
					t.Errorf("not dropped at %d: %+v", at, s)
				}
			}
		}
	}
}

// P2: a state can be kept, and gone on with twice.
func TestStateIsAValue(t *testing.T) {
	s := State{}
	for i := range uint64(2000) {
		waited := 5 - i%97/96
		a, x := step(t, plain, s, i, waited, 50)
		step(t, plain, a, i+500, 9, 50)
		step(t, plain, s, most, 9, 50)
		step(t, plain, s, 0, 0, 0)
		b, y := step(t, plain, s, i, waited, 50)
		if a != b || x != y {
			t.Fatalf("Step is %+v, %t and then %+v, %t", a, x, b, y)
		}
		s = b
	}
}
