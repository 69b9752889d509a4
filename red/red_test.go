package red

import (
	"math"
	"math/big"
	"slices"
	"testing"

	"pacemaker/api"
)

const most = api.MaxU64

// valid are configurations that are allowed.
func valid() []Conf {
	return []Conf{
		{10, 20, 65536, 0}, {10, 20, 1, 0}, {0, 1, 1, 0}, {0, 1, 65536, 16}, {0, 1 << 40, 65536, 0}, {0, 1 << 40, 1, 16},
		{1<<40 - 1, 1 << 40, 65536, 3}, {1<<40 - 1, 1 << 40, 1, 1}, {0, 65536, 65536, 0}, {0, 65537, 65535, 2}, {5, 12, 3, 4},
		{1000, 3000, 6554, 9}, {1000, 1001, 40000, 8}, {7, 1 << 33, 65535, 15},
	}
}

// wrong are configurations that are not allowed.
func wrong() []Conf {
	l := []Conf{
		{}, {10, 10, 1, 0}, {11, 10, 1, 0}, {most, 0, 1, 0}, {most, 10, 1, 0}, {0, 0, 1, 0}, {1 << 40, 1 << 40, 1, 0},
		{0, 1<<40 + 1, 1, 0}, {1 << 40, 1<<40 + 1, 1, 0}, {0, most, 1, 0}, {most - 1, most, 1, 0}, {0, 1 << 63, 65536, 16}, {0, 1 << 41, 1, 0},
		{10, 20, 0, 0}, {10, 20, 65537, 0}, {10, 20, 1 << 32, 0}, {10, 20, 1<<32 + 1, 0}, {10, 20, most, 0},
		{10, 10, 0, 17}, {20, 10, 65537, -1}, {10, 1<<40 + 1, 0, 3},
	}
	for _, slow := range []int{-1, -2, -16, math.MinInt, 17, 18, 63, 64, 1 << 32, math.MaxInt} {
		l = append(l, Conf{10, 20, 65536, slow}, Conf{0, 1, 1, slow})
	}
	return l
}

// 18.1
func TestCheck(t *testing.T) {
	for _, c := range valid() {
		if err := Check(c); err != api.OK {
			t.Errorf("Check(%v) is %d", c, err)
		}
	}
	for _, c := range wrong() {
		if err := Check(c); err != api.ErrArg {
			t.Errorf("Check(%v) is %d", c, err)
		}
	}
}

// 18.1: all edges of each part with all edges of the others.
func TestCheckEdges(t *testing.T) {
	ends := []uint64{0, 1, 2, 1<<40 - 1, 1 << 40, 1<<40 + 1, most}
	for _, low := range ends {
		for _, high := range ends {
			for _, part := range []uint64{0, 1, 2, 65535, 65536, 65537, most} {
				for _, slow := range []int{-1, 0, 1, 15, 16, 17} {
					want := api.ErrArg
					if low < high && high <= 1<<40 && part >= 1 && part <= 65536 && slow >= 0 && slow <= 16 {
						want = api.OK
					}
					if err := Check(Conf{low, high, part, slow}); err != want {
						t.Errorf("Check(%d, %d, %d, %d) is %d", low, high, part, slow, err)
					}
				}
			}
		}
	}
}

// 18.2: nothing is done with a configuration that is not valid.
func TestNotValid(t *testing.T) {
	for _, c := range wrong() {
		for _, s := range []State{{}, {1, 2}, {0, 70000}, {most, 0}, {15, most}, {most, most}} {
			for _, waits := range []uint64{0, 15, 1 << 40, most} {
				if got, dropped := Step(c, s, waits); got != s || dropped {
					t.Errorf("Step(%v, %v, %d) is %v, %t", c, s, waits, got, dropped)
				}
			}
		}
		for _, l := range [][]uint64{nil, {}, {0}, {15, 15, 99}, {most}} {
			if got := Play(c, l); len(got) != 0 {
				t.Errorf("Play(%v, %v) is %v", c, l, got)
			}
		}
	}
}

func big64(x uint64) *big.Int { return new(big.Int).SetUint64(x) }

// capped returns x, or the greatest number if that is less.
func capped(x *big.Int) uint64 {
	if !x.IsUint64() {
		return most
	}
	return x.Uint64()
}

// model does what Step should, in exact numbers.
func model(c Conf, s State, waits uint64) (State, bool) {
	mean := big64(s.Mean)
	mean.Sub(mean, new(big.Int).Rsh(mean, uint(c.Slow))).Add(mean, big64(waits))
	s.Mean = capped(mean)
	m := new(big.Int).Rsh(big64(s.Mean), uint(c.Slow))
	switch {
	case m.Cmp(big64(c.Low)) < 0:
		return State{s.Mean, 0}, false
	case m.Cmp(big64(c.High)) >= 0:
		return State{s.Mean, 0}, true
	}
	s.Count = capped(new(big.Int).Add(big64(s.Count), big.NewInt(1)))
	part := new(big.Int).Sub(m, big64(c.Low))
	part.Mul(part, big64(c.Most)).Div(part, big64(c.High-c.Low))
	if part.Mul(part, big64(s.Count)).Cmp(big.NewInt(65536)) >= 0 {
		return State{s.Mean, 0}, true
	}
	return s, false
}

// step does a step, and tells whether it does what it should.
func step(t *testing.T, c Conf, s State, waits uint64) (State, bool) {
	t.Helper()
	was := s
	got, dropped := Step(c, s, waits)
	want, is := model(c, s, waits)
	if got != want || dropped != is {
		t.Fatalf("Step(%v, %v, %d) is %v, %t, not %v, %t", c, s, waits, got, dropped, want, is)
	}
	if s != was {
		t.Fatalf("the state %v became %v", was, s)
	}
	return got, dropped
}

// 18.2: steps worked out by hand.
func TestStep(t *testing.T) {
	fast, slow := Conf{10, 20, 65536, 0}, Conf{10, 20, 32768, 2}
	for i, x := range []struct {
		c       Conf
		s       State
		waits   uint64
		want    State
		dropped bool
	}{
		// Below Low, of just Low, between, just below High, of just High and above.
		{fast, State{}, 9, State{9, 0}, false}, {fast, State{99, 7}, 9, State{9, 0}, false}, {fast, State{0, most}, 0, State{0, 0}, false},
		{fast, State{}, 10, State{10, 1}, false}, {fast, State{5, 99}, 10, State{10, 100}, false}, {fast, State{5, most}, 10, State{10, most}, false},
		{fast, State{}, 11, State{11, 1}, false}, {fast, State{0, 9}, 11, State{11, 10}, false}, {fast, State{0, 10}, 11, State{11, 0}, true},
		{fast, State{}, 15, State{15, 1}, false}, {fast, State{15, 1}, 15, State{15, 0}, true}, {fast, State{15, 2}, 15, State{15, 0}, true}, {fast, State{15, most}, 15, State{15, 0}, true},
		{fast, State{}, 19, State{19, 1}, false}, {fast, State{19, 1}, 19, State{19, 0}, true},
		{fast, State{}, 20, State{20, 0}, true}, {fast, State{20, 5}, 20, State{20, 0}, true}, {fast, State{}, 21, State{21, 0}, true},
		{fast, State{0, most}, 1 << 40, State{1 << 40, 0}, true}, {fast, State{most, most}, most, State{most, 0}, true}, {fast, State{most, most}, 0, State{0, 0}, false},
		// Slowly: the mean of what is stored is a fourth of it.
		{slow, State{40, 3}, 14, State{44, 4}, false}, {slow, State{36, 3}, 12, State{39, 0}, false}, {slow, State{36, 3}, 13, State{40, 4}, false},
		{slow, State{60, 3}, 15, State{60, 0}, true}, {slow, State{60, 2}, 15, State{60, 3}, false}, {slow, State{79, 2}, 19, State{79, 0}, true}, {slow, State{79, 1}, 20, State{80, 0}, true},
		{slow, State{most, 1}, most, State{most, 0}, true}, {slow, State{most, 1}, 0, State{most - most/4, 0}, true},
	} {
		got, dropped := step(t, x.c, x.s, x.waits)
		if got != x.want || dropped != x.dropped {
			t.Errorf("%d: Step is %v, %t", i, got, dropped)
		}
	}
}

// 18.2: count * part is just 65536, one below, and far above.
func TestCount(t *testing.T) {
	// With these a mean is a part: from 0 to 65535.
	c := Conf{0, 65536, 65536, 0}
	for _, x := range []struct {
		part, count uint64 // the count with this packet
		dropped     bool
	}{
		{0, 1, false}, {0, 1 << 40, false}, {0, most, false}, {1, 65535, false}, {1, 65536, true}, {1, 65537, true}, {1, most, true},
		{2, 32767, false}, {2, 32768, true}, {3, 21845, false}, {3, 21846, true}, {65535, 1, false}, {65535, 2, true},
		{32767, 2, false}, {32768, 1, false}, {32768, 2, true}, {256, 255, false}, {256, 256, true}, {255, 257, false}, {255, 258, true},
		{257, 255, false}, {5, 1 << 62, true}, {65535, most, true}, {4, 1 << 62, true}, {2, 1 << 63, true}, {32768, 1 << 49, true}, {16384, 1<<50 + 1, true},
	} {
		want := State{x.part, x.count}
		if x.dropped {
			want.Count = 0
		}
		if got, dropped := step(t, c, State{3, x.count - 1}, x.part); got != want || dropped != x.dropped {
			t.Errorf("with a part of %d and a count of %d Step is %v, %t", x.part, x.count, got, dropped)
		}
	}
	// A count of 2^64 - 1 stays so.
	if got, dropped := step(t, c, State{3, most}, 0); got != (State{0, most}) || dropped {
		t.Errorf("Step is %v, %t", got, dropped)
	}
	if got, dropped := step(t, c, State{3, most}, 1); got != (State{1, 0}) || dropped != true {
		t.Errorf("Step is %v, %t", got, dropped)
	}
}

// 18.2: a part is rounded down, also to 0.
func TestPart(t *testing.T) {
	for _, x := range []struct {
		c     Conf
		m     uint64
		count uint64 // with which a packet is dropped first; 0 if none is
	}{
		{Conf{0, 3, 1, 0}, 2, 0}, {Conf{0, 3, 2, 0}, 1, 0}, {Conf{0, 3, 2, 0}, 2, 65536}, {Conf{10, 13, 3, 0}, 11, 65536}, {Conf{10, 13, 3, 0}, 12, 32768},
		{Conf{0, 1 << 40, 65536, 0}, 1<<24 - 1, 0}, {Conf{0, 1 << 40, 65536, 0}, 1 << 24, 65536}, {Conf{0, 1 << 40, 65536, 0}, 1<<40 - 1, 2},
		{Conf{7, 1 << 40, 1, 0}, 1<<40 - 1, 0}, {Conf{9, 10, 65536, 0}, 9, 0}, {Conf{0, 10, 65535, 0}, 9, 2}, {Conf{0, 10, 9, 0}, 9, 8192},
	} {
		for _, count := range []uint64{1, 2, 3, x.count - 1, x.count, x.count + 1, 1 << 60, most} {
			if count == 0 || count == most && x.count == 0 {
				continue
			}
			want := x.count > 0 && count >= x.count
			if _, dropped := step(t, x.c, State{0, count - 1}, x.m); dropped != want {
				t.Errorf("with %v, a mean of %d and a count of %d, dropped is %t", x.c, x.m, count, dropped)
			}
		}
	}
}

// 18.2: all configurations, states and numbers that differ somewhere.
func TestStepAll(t *testing.T) {
	for _, c := range valid() {
		shift := uint(c.Slow)
		between := (c.Low + c.High) / 2
		for _, m := range []uint64{0, 1, c.Low - 1, c.Low, c.Low + 1, between, c.High - 1, c.High, c.High + 1, most >> shift} {
			for _, stored := range []uint64{m << shift, m<<shift + 1<<shift - 1, m<<shift + 1<<shift, most - 1, most} {
				for _, count := range []uint64{0, 1, 2, 65534, 65535, 65536, 1 << 48, most - 1, most} {
					for _, waits := range []uint64{0, 1, c.Low, between, c.High - 1, c.High, m, 1 << 40, most - 1, most} {
						step(t, c, State{stored, count}, waits)
					}
				}
			}
		}
	}
}

// 18.2, the chapter's example.
func TestExample(t *testing.T) {
	c := Conf{10, 20, 65536, 0}
	if l := Play(c, []uint64{15, 15, 15, 15}); !slices.Equal(l, []bool{false, true, false, true}) {
		t.Errorf("Play is %v", l)
	}
}

// play tells whether Play answers what Step after Step does, and returns it.
func play(t *testing.T, c Conf, l []uint64) []bool {
	t.Helper()
	given := slices.Clone(l)
	var s State
	var want []bool
	for _, waits := range l {
		var dropped bool
		s, dropped = step(t, c, s, waits)
		want = append(want, dropped)
	}
	got := Play(c, l)
	if !slices.Equal(got, want) {
		t.Fatalf("Play(%v, %v) is %v, not %v", c, l, got, want)
	}
	if !slices.Equal(l, given) {
		t.Fatalf("the list %v became %v", given, l)
	}
	return got
}

// 18.2: of nothing, of one number and of many.
func TestPlay(t *testing.T) {
	for _, c := range valid() {
		if l := Play(c, nil); len(l) != 0 {
			t.Errorf("Play of nothing is %v", l)
		}
		if l := Play(c, []uint64{}); len(l) != 0 {
			t.Errorf("Play of nothing is %v", l)
		}
		for _, waits := range []uint64{0, 1, c.Low, c.High - 1, c.High, c.High << c.Slow, 1 << 40, most} {
			play(t, c, []uint64{waits})
			play(t, c, slices.Repeat([]uint64{waits}, 200))
		}
		seed := c.High + c.Most
		var l []uint64
		for i := range 3000 {
			seed = seed*6364136223846793005 + 1442695040888963407
			span := c.High - c.Low
			l = append(l, c.Low+seed>>20%(span+span/4+1))
			if i%500 > 450 {
				l[i] /= 2
			}
		}
		play(t, c, l)
		play(t, c, l[:1000])
	}
}

// 18.2: a list that was returned shares nothing with one that is returned again.
func TestPlayTwice(t *testing.T) {
	c, l := Conf{10, 20, 65536, 0}, []uint64{15, 15, 9, 20, 12}
	a, b := Play(c, l), Play(c, l)
	clear(a)
	if !slices.Equal(b, []bool{false, true, false, true, false}) {
		t.Errorf("Play is %v after another list was changed", b)
	}
}

// 18.3: below Low no packet is dropped, and from High on every one, whatever was
// before.
func TestLowAndHigh(t *testing.T) {
	for _, c := range valid() {
		for _, count := range []uint64{0, 1, 65535, 65536, most - 1, most} {
			s := State{0, count}
			for range 50 {
				if c.Low == 0 {
					break
				}
				// A mean that followed Low - 1 forever.
				s.Mean = (c.Low - 1) << c.Slow
				var dropped bool
				if s, dropped = step(t, c, s, c.Low-1); dropped || s.Count != 0 {
					t.Errorf("with %v a packet below Low: %v, %t", c, s, dropped)
				}
				s.Count = count
			}
			for range 50 {
				s.Mean = c.High << c.Slow
				var dropped bool
				if s, dropped = step(t, c, s, c.High); !dropped || s.Count != 0 {
					t.Errorf("with %v a packet from High on: %v, %t", c, s, dropped)
				}
				s.Count = count
			}
		}
	}
}

// 18.3: a long row that stays below Low, and one that is above High for long.
func TestLowAndHighRows(t *testing.T) {
	for _, slow := range []int{0, 1, 4, 9} {
		c := Conf{1000, 3000, 65536, slow}
		below := slices.Repeat([]uint64{999, 0, 999}, 5000)
		if slices.Contains(play(t, c, below), true) {
			t.Errorf("with %v packets are dropped below Low", c)
		}
		above := play(t, c, slices.Repeat([]uint64{3001}, 15000))
		if slices.Contains(above[14000:], false) || slow > 0 && above[0] {
			t.Errorf("with %v packets stay from High on", c)
		}
	}
}

// 18.4: with a constant mean one of as many packets is dropped as are necessary
// for count * part to reach 65536.
func TestConstantMean(t *testing.T) {
	for _, x := range []struct {
		c    Conf
		m    uint64
		each int // one of so many; 0 if none
	}{
		{Conf{10, 20, 65536, 0}, 10, 0}, {Conf{10, 20, 65536, 0}, 11, 11}, {Conf{10, 20, 65536, 0}, 12, 6}, {Conf{10, 20, 65536, 0}, 13, 4}, {Conf{10, 20, 65536, 0}, 15, 2}, {Conf{10, 20, 65536, 0}, 19, 2},
		{Conf{10, 20, 65536, 5}, 12, 6}, {Conf{10, 20, 32768, 16}, 15, 4}, {Conf{0, 100, 6554, 3}, 50, 20}, {Conf{0, 100, 6554, 3}, 99, 11}, {Conf{0, 100, 6553, 3}, 99, 11},
		{Conf{0, 65536, 65536, 0}, 1, 65536}, {Conf{0, 65536, 65536, 0}, 3, 21846}, {Conf{0, 65536, 65536, 7}, 65535, 2}, {Conf{0, 65536, 65536, 0}, 256, 256}, {Conf{0, 3, 1, 0}, 2, 0}, {Conf{0, 3, 2, 2}, 2, 65536},
		{Conf{0, 1 << 40, 65536, 8}, 1 << 39, 2}, {Conf{0, 1 << 40, 65536, 16}, 1 << 36, 16},
	} {
		s := State{x.m << x.c.Slow, 0}
		for i := range 140000 {
			was := s.Mean
			var dropped bool
			s, dropped = Step(x.c, s, x.m)
			if s.Mean != was {
				t.Fatalf("the mean is not constant, but %d and %d", was, s.Mean)
			}
			if want := x.each > 0 && (i+1)%x.each == 0; dropped != want {
				t.Fatalf("with %v and a mean of %d, packet %d: dropped is %t", x.c, x.m, i, dropped)
			}
		}
	}
}

// P2: a state can be kept, and gone on with twice.
func TestStateIsAValue(t *testing.T) {
	c := Conf{10, 20, 65536, 1}
	s := State{30, 0}
	for i := range uint64(300) {
		waits := 10 + i*7%13
		a, x := step(t, c, s, waits)
		step(t, c, a, 19)
		step(t, c, s, most)
		b, y := step(t, c, s, waits)
		if a != b || x != y {
			t.Fatalf("Step(%v, %d) is %v, %t and then %v, %t", s, waits, a, x, b, y)
		}
		s = b
	}
}
