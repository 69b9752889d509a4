package gate

import (
	"math"
	"math/big"
	"slices"
	"testing"

	"pacemaker/api"
)

const (
	most = api.MaxU64
	half = 1 << 63 // the greatest time of Next
)

// plan returns a plan: what is open, for how long, what is open next, and so on.
func plan(numbers ...uint64) []api.Slot {
	var l []api.Slot
	for pair := range slices.Chunk(numbers, 2) {
		l = append(l, api.Slot{Open: uint8(pair[0]), Span: pair[1]})
	}
	return l
}

// repeat returns a plan with the same slot so often.
func repeat(s api.Slot, n int) []api.Slot {
	return slices.Repeat([]api.Slot{s}, n)
}

// with returns a plan in which one slot is another one.
func with(l []api.Slot, i int, s api.Slot) []api.Slot {
	l = slices.Clone(l)
	l[i] = s
	return l
}

// wrong are plans that are not valid.
func wrong() [][]api.Slot {
	all := api.Slot{Open: 255, Span: 1}
	return [][]api.Slot{
		nil, {}, repeat(all, 65), repeat(all, 66), repeat(all, 1000), repeat(api.Slot{}, 64), repeat(api.Slot{}, 65),
		{{Open: 255}}, {{Open: 255, Span: 1<<32 + 1}}, {{Open: 255, Span: 1 << 33}}, {{Open: 255, Span: 1 << 63}}, {{Open: 255, Span: most}},
		{{}, all}, {all, {}}, {all, all, {Span: 1<<32 + 1}}, {{Span: most}, {Span: 1}}, {all, {Open: 255, Span: 0}, all},
		with(repeat(all, 64), 63, api.Slot{}), with(repeat(all, 64), 63, api.Slot{Span: 1<<32 + 1}), with(repeat(all, 64), 0, api.Slot{}),
	}
}

// plans are some that are valid.
func plans() [][]api.Slot {
	const a, b = 1, 2
	return [][]api.Slot{
		plan(0, 1), plan(255, 1), plan(1, 5), plan(128, 3, 0, 2), plan(a, 3, 0, 5), plan(0, 3, a, 5), plan(a|b, 3, b, 5, a, 1), plan(a, 1, b, 1),
		plan(0, 2, 0, 3), plan(255, 2, 255, 3), plan(a, 2, a, 3, b, 1), plan(b, 1, a, 2, a, 3), plan(a, 2, b, 1, a, 3), plan(a, 1, 0, 1, a, 4, 0, 1, a, 2),
		plan(0, 1, a, 2, 0, 1, a, 3, 0, 2, a, 3, 0, 1, a, 1), plan(3, 1, 5, 2, 6, 3, 7, 1, 0, 1, 129, 2), plan(170, 1, 85, 2, 255, 1, 15, 3, 240, 2),
		repeat(api.Slot{Open: 255, Span: 1}, 64), repeat(api.Slot{Open: 0, Span: 1}, 64), with(repeat(api.Slot{Open: a, Span: 1}, 64), 40, api.Slot{Open: b, Span: 2}),
		with(repeat(api.Slot{Open: 0, Span: 1}, 64), 63, api.Slot{Open: b, Span: 2}),
	}
}

// 22.1: plans without a slot, with 64 and with 65; a Span of 0, 1, 2^32 and one
// more.
func TestCheck(t *testing.T) {
	for _, l := range wrong() {
		if err := Check(l); err != api.ErrArg {
			t.Errorf("Check(%v) is %d", l, err)
		}
	}
	long := repeat(api.Slot{Open: 3, Span: MaxSpan}, MaxSlots)
	for _, l := range append(plans(), long, long[:1], []api.Slot{{Span: 1 << 32}}, []api.Slot{{Span: 1}}, with(long, 63, api.Slot{Span: 1})) {
		if err := Check(l); err != api.OK {
			t.Errorf("Check(%v) is %d", l, err)
		}
	}
	if MaxSlots != 64 || MaxSpan != 1<<32 {
		t.Errorf("at most %d slots of %d", MaxSlots, MaxSpan)
	}
}

// 22.1: what the functions return for a plan that is not valid.
func TestNotValid(t *testing.T) {
	for _, l := range wrong() {
		if round := Round(l); round != 0 {
			t.Errorf("Round(%v) is %d", l, round)
		}
		for _, at := range []uint64{0, 1, 5, 1 << 32, half, most} {
			if open := Open(l, at); open != 0 {
				t.Errorf("Open(%v, %d) is %d", l, at, open)
			}
			for _, class := range []int{-1, 0, 7, 8} {
				if ticks, ok := Stays(l, class, at); ticks != 0 || ok {
					t.Errorf("Stays(%v, %d, %d) is %d, %t", l, class, at, ticks, ok)
				}
				for _, need := range []uint64{0, 1, most} {
					if next, ok := Next(l, class, at, need); next != 0 || ok {
						t.Errorf("Next(%v, %d, %d, %d) is %d, %t", l, class, at, need, next, ok)
					}
				}
			}
		}
	}
}

// 22.1
func TestRound(t *testing.T) {
	for _, x := range []struct {
		l    []api.Slot
		want uint64
	}{
		{plan(0, 1), 1}, {plan(3, 3, 2, 5, 1, 1), 9}, {plan(3, 1<<32), 1 << 32}, {plan(3, 1<<32, 3, 1<<32, 0, 1), 1<<33 + 1},
		{repeat(api.Slot{Span: 1}, 64), 64}, {repeat(api.Slot{Span: MaxSpan}, 64), 1 << 38},
	} {
		if round := Round(x.l); round != x.want {
			t.Errorf("Round(%v) is %d", x.l, round)
		}
	}
}

// 22.1: times at the edges of slots and of rounds.
func TestOpen(t *testing.T) {
	l := plan(3, 3, 2, 5, 1, 1)
	big := plan(1, 1<<32, 2, 1, 4, 1<<32)
	for _, x := range []struct {
		l    []api.Slot
		at   uint64
		want uint8
	}{
		{l, 0, 3}, {l, 1, 3}, {l, 2, 3}, {l, 3, 2}, {l, 4, 2}, {l, 7, 2}, {l, 8, 1}, {l, 9, 3}, {l, 11, 3}, {l, 12, 2}, {l, 16, 2}, {l, 17, 1}, {l, 18, 3},
		// 2^63 is 9 * k + 8, and 2^64 - 1 is 9 * k + 6.
		{l, half, 1}, {l, half - 1, 2}, {l, half + 1, 3}, {l, most, 2}, {l, most - 6, 3}, {l, most - 4, 3}, {l, most - 3, 2}, {l, most - 7, 1},
		{big, 1<<32 - 1, 1}, {big, 1 << 32, 2}, {big, 1<<32 + 1, 4}, {big, 1 << 33, 4}, {big, 1<<33 + 1, 1},
		{plan(255, 1), most, 255}, {plan(0, 1), most, 0}, {plan(255, 1, 0, 1), most, 0}, {plan(255, 1, 0, 1), most - 1, 255}, {plan(170, 1, 85, 1), half, 170},
	} {
		if open := Open(x.l, x.at); open != x.want {
			t.Errorf("Open(%v, %d) is %d, not %d", x.l, x.at, open, x.want)
		}
	}
}

// 22.1: classes below 0 and above 7 are none, and those from 0 to 7 are.
func TestClasses(t *testing.T) {
	for _, class := range []int{-1, -2, -8, -64, math.MinInt, 8, 9, 63, 64, 1 << 32, math.MaxInt} {
		for _, l := range plans() {
			for _, at := range []uint64{0, 1, 9, most} {
				if ticks, ok := Stays(l, class, at); ticks != 0 || ok {
					t.Errorf("Stays(%v, %d, %d) is %d, %t", l, class, at, ticks, ok)
				}
				if next, ok := Next(l, class, at, 1); next != 0 || ok {
					t.Errorf("Next(%v, %d, %d, 1) is %d, %t", l, class, at, next, ok)
				}
			}
		}
	}
	for class := range 8 {
		l := plan(1<<class, 3, 255-1<<class, 4)
		for other := range 8 {
			want := uint64(0)
			if other == class {
				want = 3
			}
			if ticks, ok := Stays(l, other, 7); ticks != want || !ok {
				t.Errorf("class %d stays open for %d ticks, %t", other, ticks, ok)
			}
			if next, ok := Next(l, other, 0, 1); next != 3-want || !ok {
				t.Errorf("class %d is open next at %d, %t", other, next, ok)
			}
		}
	}
}

// 22.2: a class that is open in all slots, in none, in the last slot and the
// first one of the next round, and longer than that; also past 2^64 - 1.
func TestStays(t *testing.T) {
	l := plan(3, 3, 2, 5, 1, 1)
	long := plan(1, 2, 1, 3, 0, 1, 1, 4, 1, 5)
	far := plan(1, 1<<32, 1, 1<<32, 2, 1)
	for _, x := range []struct {
		l     []api.Slot
		class int
		at    uint64
		want  uint64
		ok    bool
	}{
		{l, 0, 0, 3, true}, {l, 0, 1, 2, true}, {l, 0, 2, 1, true}, {l, 0, 3, 0, true}, {l, 0, 7, 0, true}, {l, 0, 8, 4, true}, {l, 0, 9, 3, true}, {l, 0, 17, 4, true}, {l, 0, 11, 1, true}, {l, 0, 12, 0, true},
		{l, 1, 0, 8, true}, {l, 1, 3, 5, true}, {l, 1, 7, 1, true}, {l, 1, 8, 0, true}, {l, 1, 9, 8, true}, {l, 2, 0, 0, true}, {l, 7, 4, 0, true},
		{long, 0, 6, 14, true}, {long, 0, 7, 13, true}, {long, 0, 10, 10, true}, {long, 0, 14, 6, true}, {long, 0, 0, 5, true}, {long, 0, 1, 4, true}, {long, 0, 4, 1, true}, {long, 0, 5, 0, true}, {long, 0, 15, 5, true},
		{far, 0, 0, 1 << 33, true}, {far, 0, 1, 1<<33 - 1, true}, {far, 0, 1 << 33, 0, true}, {far, 1, 1 << 33, 1, true}, {far, 1, 0, 0, true},
		{l[:2], 1, 0, 0, false}, {l[:2], 1, 5, 0, false}, {l[:2], 1, most, 0, false}, {plan(1, 1), 0, 7, 0, false}, {plan(1, 1), 1, 7, 0, true}, {repeat(api.Slot{Open: 1, Span: MaxSpan}, 64), 0, 77, 0, false}, {repeat(api.Slot{Open: 0, Span: MaxSpan}, 64), 0, 77, 0, true},
		// 2^63 is 9 * k + 8, 2^64 - 1 is 9 * k + 6: class 1 is open for 2 ticks from there on, one of them past the greatest number.
		{l, 0, half, 4, true}, {l, 1, half, 0, true}, {l, 1, most, 2, true}, {l, 0, most, 0, true}, {l, 1, most - 1, 3, true}, {l, 1, most - 6, 8, true}, {l, 0, most - 7, 4, true}, {l, 0, most - 6, 3, true},
		// 2^64 - 1 is 15 * k, and 2^64 + 2^31 is a multiple of 2^33 + 1.
		{long, 0, most, 5, true}, {long, 0, most - 1, 6, true}, {far, 0, most, 1 << 31, true}, {far, 0, most - 1, 1<<31 + 1, true},
	} {
		if ticks, ok := Stays(x.l, x.class, x.at); ticks != x.want || ok != x.ok {
			t.Errorf("Stays(%v, %d, %d) is %d, %t, not %d, %t", x.l, x.class, x.at, ticks, ok, x.want, x.ok)
		}
	}
}

// 22.3: a need of 0, of 1, of just the longest time in which the class is open
// and of one more; where the class is open for long enough, and where it is not.
func TestNext(t *testing.T) {
	l := plan(3, 3, 2, 5, 1, 1)
	long := plan(1, 2, 0, 1, 1, 4, 0, 2, 1, 3)
	for _, x := range []struct {
		l        []api.Slot
		class    int
		at, need uint64
		want     uint64
		ok       bool
	}{
		{l, 0, 0, 0, 0, true}, {l, 0, 0, 1, 0, true}, {l, 0, 0, 3, 0, true}, {l, 0, 0, 4, 8, true}, {l, 0, 0, 5, 0, false}, {l, 0, 0, most, 0, false}, {l, 0, 1, 2, 1, true}, {l, 0, 1, 3, 8, true}, {l, 0, 2, 1, 2, true}, {l, 0, 2, 0, 2, true}, {l, 0, 2, 2, 8, true},
		{l, 0, 3, 0, 8, true}, {l, 0, 3, 1, 8, true}, {l, 0, 3, 4, 8, true}, {l, 0, 3, 5, 0, false}, {l, 0, 8, 4, 8, true}, {l, 0, 8, 5, 0, false}, {l, 0, 9, 4, 17, true}, {l, 0, 9, 3, 9, true},
		{l, 1, 0, 8, 0, true}, {l, 1, 1, 8, 9, true}, {l, 1, 1, 7, 1, true}, {l, 1, 8, 8, 9, true}, {l, 1, 8, 0, 9, true}, {l, 1, 0, 9, 0, false}, {l, 1, 4, 9, 0, false}, {l, 2, 0, 0, 0, false}, {l, 2, 5, 1, 0, false}, {l, 7, half, 1, 0, false},
		{long, 0, 0, 2, 0, true}, {long, 0, 0, 3, 3, true}, {long, 0, 0, 4, 3, true}, {long, 0, 0, 5, 9, true}, {long, 0, 0, 6, 0, false}, {long, 0, 4, 4, 9, true}, {long, 0, 4, 3, 4, true}, {long, 0, 10, 5, 21, true}, {long, 0, 10, 4, 10, true}, {long, 0, 11, 4, 15, true}, {long, 0, 2, 1, 3, true}, {long, 0, 7, 0, 9, true},
		// Open forever: for any need, at once.
		{l[:2], 1, 5, most, 5, true}, {l[:2], 1, 0, 0, 0, true}, {l[:2], 1, half, most, half, true}, {l[:2], 1, half + 1, 1, 0, false}, {plan(1, 1), 0, 7, 1 << 60, 7, true}, {plan(1, 1), 1, 7, 1, 0, false},
		// A need of a round, and of one less.
		{plan(1, 8, 0, 1), 0, 0, 8, 0, true}, {plan(1, 8, 0, 1), 0, 0, 9, 0, false}, {plan(1, 8, 0, 1), 0, 1, 8, 9, true}, {plan(0, 1, 1, 8), 0, 2, 8, 10, true},
		// 2^63 is 9 * k + 8: results of just 2^63 and above, and times of it and above.
		{l, 0, half - 5, 1, half, true}, {l, 0, half - 5, 4, half, true}, {l, 1, half - 1, 1, half - 1, true}, {l, 1, half - 1, 2, 0, false}, {l, 1, half, 1, 0, false}, {l, 1, half - 2, 8, 0, false}, {l, 1, half - 8, 8, half - 8, true}, {l, 1, half - 7, 8, 0, false},
		{l, 0, half, 0, half, true}, {l, 0, half, 1, half, true}, {l, 0, half, 4, half, true}, {l, 0, half, 5, 0, false}, {l, 0, half + 1, 1, 0, false}, {l, 0, most, 1, 0, false}, {l, 1, most, 0, 0, false}, {l, 1, half + 1, 0, 0, false},
	} {
		if next, ok := Next(x.l, x.class, x.at, x.need); next != x.want || ok != x.ok {
			t.Errorf("Next(%v, %d, %d, %d) is %d, %t, not %d, %t", x.l, x.class, x.at, x.need, next, ok, x.want, x.ok)
		}
	}
}

// 22.2, 22.3: the longest plan of the longest slots.
func TestLongest(t *testing.T) {
	l := with(repeat(api.Slot{Open: 1, Span: MaxSpan}, MaxSlots), 17, api.Slot{Open: 2, Span: MaxSpan})
	const span = MaxSpan
	if ticks, ok := Stays(l, 0, 18*span); ticks != 63*span || !ok {
		t.Errorf("Stays is %d, %t", ticks, ok)
	}
	if next, ok := Next(l, 0, 0, 63*span); next != 18*span || !ok {
		t.Errorf("Next is %d, %t", next, ok)
	}
	if next, ok := Next(l, 0, 18*span+1, 63*span); next != 82*span || !ok {
		t.Errorf("Next is %d, %t", next, ok)
	}
	if next, ok := Next(l, 0, 0, 63*span+1); next != 0 || ok {
		t.Errorf("Next is %d, %t", next, ok)
	}
	if next, ok := Next(l, 1, 17*span+1, span); next != 81*span || !ok {
		t.Errorf("Next is %d, %t", next, ok)
	}
	if next, ok := Next(l, 1, 17*span+1, span-1); next != 17*span+1 || !ok {
		t.Errorf("Next is %d, %t", next, ok)
	}
}

// chart returns what is open in each tick of a round, written out.
func chart(l []api.Slot) []uint8 {
	var open []uint8
	for _, s := range l {
		open = append(open, slices.Repeat([]uint8{s.Open}, int(s.Span))...)
	}
	return open
}

// at returns which place of a chart a time has, if it is n ticks after another
// one.
func at(c []uint8, time, n uint64) uint8 {
	sum := new(big.Int).Add(new(big.Int).SetUint64(time), new(big.Int).SetUint64(n))
	return c[sum.Mod(sum, big.NewInt(int64(len(c)))).Uint64()]
}

// stays counts, tick by tick, how long a class stays open.
func stays(c []uint8, class int, time uint64) (uint64, bool) {
	for n := range uint64(len(c)) {
		if at(c, time, n)>>class&1 == 0 {
			return n, true
		}
	}
	return 0, false
}

// next looks, tick by tick, from when on a class is open for so long.
func next(c []uint8, class int, time, need uint64) (uint64, bool) {
	for n := range uint64(2 * len(c)) {
		ticks, known := stays(c, class, time+n)
		if time > half || time+n > half {
			return 0, false
		}
		if !known || ticks >= max(need, 1) {
			return time + n, true
		}
	}
	return 0, false
}

// look tells whether all is at a time as the chart shows it.
func look(t *testing.T, l []api.Slot, c []uint8, time uint64) {
	t.Helper()
	if open := Open(l, time); open != at(c, time, 0) {
		t.Fatalf("Open(%v, %d) is %d", l, time, open)
	}
	for class := range 8 {
		ticks, known := Stays(l, class, time)
		if n, is := stays(c, class, time); ticks != n || known != is {
			t.Fatalf("Stays(%v, %d, %d) is %d, %t, not %d, %t", l, class, time, ticks, known, n, is)
		}
		for _, need := range []uint64{0, 1, 2, 3, 4, 5, 6, 8, 9, 64, most} {
			got, ok := Next(l, class, time, need)
			if want, is := next(c, class, time, need); got != want || ok != is {
				t.Fatalf("Next(%v, %d, %d, %d) is %d, %t, not %d, %t", l, class, time, need, got, ok, want, is)
			}
		}
	}
}

// 22.1-22.3: Open, Stays and Next tick by tick against the plan itself.
func TestTickByTick(t *testing.T) {
	for _, l := range plans() {
		given := slices.Clone(l)
		c := chart(l)
		for n := range uint64(len(c) + 3) {
			for _, from := range []uint64{0, half - uint64(len(c)), half - 2, half, most - uint64(len(c)) - 2} {
				look(t, l, c, from+n)
			}
		}
		if !slices.Equal(l, given) {
			t.Errorf("the plan %v became %v", given, l)
		}
	}
}

// 22.1-22.3: all short plans for one class.
func TestShortPlans(t *testing.T) {
	var try func(l []api.Slot)
	try = func(l []api.Slot) {
		if len(l) > 0 {
			c := chart(l)
			for time := range uint64(len(c) + 1) {
				look(t, l, c, time)
			}
		}
		if len(l) == 4 {
			return
		}
		for open := range uint8(2) {
			for span := range uint64(2) {
				try(append(l[:len(l):len(l)], api.Slot{Open: open, Span: span + 1}))
			}
		}
	}
	try(nil)
}

// 22.4: after a round, and after many, everything is as before.
func TestRounds(t *testing.T) {
	for _, l := range append(plans(), plan(1, 1<<32, 2, 1<<20, 3, 7)) {
		round := Round(l)
		for _, time := range []uint64{0, 1, 2, 3, 5, 8, round - 1, round, round + 1, 1 << 32} {
			for _, rounds := range []uint64{1, 2, 3, 1 << 20, (half - 1<<40) / round} {
				later := time + rounds*round
				if Open(l, time) != Open(l, later) {
					t.Errorf("Open(%v, %d) is %d, but %d after %d rounds", l, time, Open(l, time), Open(l, later), rounds)
				}
				for class := range 8 {
					a, x := Stays(l, class, time)
					if b, y := Stays(l, class, later); a != b || x != y {
						t.Errorf("Stays(%v, %d, %d) is %d, %t, but %d, %t after %d rounds", l, class, time, a, x, b, y, rounds)
					}
					for _, need := range []uint64{0, 1, 2, 5, round - 1, round, most} {
						a, x := Next(l, class, time, need)
						if x {
							a += rounds * round
						}
						if b, y := Next(l, class, later, need); a != b || x != y {
							t.Errorf("Next(%v, %d, %d, %d) is %d, %t, but %d, %t", l, class, later, need, b, y, a, x)
						}
					}
				}
			}
		}
	}
}

// 22.5: from the result of Next on the class is open for so long, and from no
// time before it, also if slots are far too long to go through them.
func TestNothingBefore(t *testing.T) {
	l := plan(1, 1<<31, 0, 5, 1, 1<<32, 3, 1<<20, 0, 1<<32, 1, 9)
	edges := []uint64{0}
	for range 3 {
		for _, s := range l {
			edges = append(edges, edges[len(edges)-1]+s.Span)
		}
	}
	for _, edge := range edges[:7] {
		for _, time := range []uint64{edge, edge + 1, edge + 4} {
			for _, need := range []uint64{1, 5, 9, 10, 1 << 20, 1<<20 + 1, 1 << 31, 1<<31 + 9, 1<<31 + 10, 1 << 32, 1<<32 + 1<<20} {
				for class := range 2 {
					next, ok := Next(l, class, time, need)
					if ok {
						if ticks, known := Stays(l, class, next); next < time || !known || ticks < need {
							t.Errorf("Next(%d, %d, %d) is %d, but Stays is %d, %t", class, time, need, next, ticks, known)
						}
					}
					// A class opens only at the edges of slots.
					for _, e := range append(edges, time) {
						ticks, _ := Stays(l, class, e)
						if e >= time && ticks >= need && (!ok || e < next) {
							t.Errorf("Next(%d, %d, %d) is %d, %t, but at %d the class stays open for %d", class, time, need, next, ok, e, ticks)
						}
						if e > time && ok && e < next {
							if ticks, _ := Stays(l, class, e-1); ticks >= need {
								t.Errorf("Next(%d, %d, %d) is %d, but at %d the class stays open for %d", class, time, need, next, e-1, ticks)
							}
						}
					}
				}
			}
		}
	}
}

// 22.1-22.3, the chapter's example.
func TestExample(t *testing.T) {
	l := []api.Slot{{Open: 1, Span: 3}, {Open: 0, Span: 5}}
	if Open(l, 8) != Open(l, 0) || Open(l, 8) != 1 || Open(l, 3) != 0 {
		t.Errorf("Open is %d at 0, %d at 8", Open(l, 0), Open(l, 8))
	}
	if next, ok := Next(l, 0, 2, 2); next != 8 || !ok {
		t.Errorf("Next is %d, %t", next, ok)
	}
	if next, ok := Next(l, 0, 2, 4); next != 0 || ok {
		t.Errorf("Next is %d, %t", next, ok)
	}
}

// P2: the results for a plan do not depend on what was asked before, or of other
// plans.
func TestSameAgain(t *testing.T) {
	l := plans()[15]
	for time := range uint64(40) {
		a, x := Next(l, 1, time, 3)
		b, y := Stays(l, 0, time)
		for _, other := range plans() {
			Next(other, 1, time+1, 2)
			Stays(other, 0, time)
		}
		c, z := Next(l, 1, time, 3)
		d, v := Stays(l, 0, time)
		if a != c || x != z || b != d || y != v {
			t.Fatalf("the same calls are %d, %t, %d, %t and then %d, %t, %d, %t", a, x, b, y, c, z, d, v)
		}
	}
}
