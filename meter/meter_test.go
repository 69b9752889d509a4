package meter

import (
	"math"
	"math/big"
	"testing"

	"pacemaker/api"
)

const most = api.MaxU64

// edges are numbers at which something changes.
func edges() []uint64 {
	return []uint64{0, 1, 2, 5, 10, 1 << 32, 1<<63 - 1, 1 << 63, most - 1, most}
}

// colours are those with which a packet may come, and some that are none.
func colours() []int {
	return []int{api.Green, api.Yellow, api.Red, 0, 4, 5, -1, -2, -3, 1 << 32, 1<<32 + 2, 1<<32 + 3, math.MinInt, math.MaxInt}
}

// 21.1
func TestNewOne(t *testing.T) {
	for _, rate := range edges() {
		for _, near := range edges() {
			for _, far := range edges() {
				want, wrong := One{rate, near, far, near, far}, api.OK
				if rate == 0 {
					want, wrong = One{}, api.ErrRate
				} else if near == 0 && far == 0 {
					want, wrong = One{}, api.ErrBurst
				}
				if m, err := NewOne(rate, near, far); m != want || err != wrong {
					t.Errorf("NewOne(%d, %d, %d) is %v, %d", rate, near, far, m, err)
				}
			}
		}
	}
}

// 21.1
func TestNewTwo(t *testing.T) {
	for _, slow := range edges() {
		for _, fast := range append(edges(), slow-1, slow, slow+1) {
			for _, near := range edges() {
				for _, far := range edges() {
					want, wrong := Two{slow, fast, near, far, near, far}, api.OK
					if slow == 0 || slow > fast {
						want, wrong = Two{}, api.ErrRate
					} else if near == 0 || far == 0 {
						want, wrong = Two{}, api.ErrBurst
					}
					if m, err := NewTwo(slow, fast, near, far); m != want || err != wrong {
						t.Errorf("NewTwo(%d, %d, %d, %d) is %v, %d", slow, fast, near, far, m, err)
					}
				}
			}
		}
	}
}

// 21.1: some of these written out: rates of 0 and 1, Slow equal to Fast and one
// greater, Near and Far of 0, and which error comes first.
func TestNewEdges(t *testing.T) {
	for _, x := range []struct {
		rate, near, far uint64
		want            api.Errno
	}{
		{1, 1, 1, api.OK}, {1, 0, 1, api.OK}, {1, 1, 0, api.OK}, {1, 0, 0, api.ErrBurst}, {0, 1, 1, api.ErrRate}, {0, 0, 0, api.ErrRate},
	} {
		if _, err := NewOne(x.rate, x.near, x.far); err != x.want {
			t.Errorf("NewOne(%d, %d, %d) is %d", x.rate, x.near, x.far, err)
		}
	}
	for _, x := range []struct {
		slow, fast, near, far uint64
		want                  api.Errno
	}{
		{1, 1, 1, 1, api.OK}, {1, 2, 1, 1, api.OK}, {2, 1, 1, 1, api.ErrRate}, {0, 1, 1, 1, api.ErrRate}, {0, 0, 1, 1, api.ErrRate}, {1, 0, 1, 1, api.ErrRate},
		{1, 1, 0, 1, api.ErrBurst}, {1, 1, 1, 0, api.ErrBurst}, {1, 1, 0, 0, api.ErrBurst}, {2, 1, 0, 0, api.ErrRate}, {0, 0, 0, 0, api.ErrRate}, {most, most - 1, 1, 1, api.ErrRate},
	} {
		if _, err := NewTwo(x.slow, x.fast, x.near, x.far); err != x.want {
			t.Errorf("NewTwo(%d, %d, %d, %d) is %d", x.slow, x.fast, x.near, x.far, err)
		}
	}
}

// 21.1: what the functions return for a meter that is not valid.
func TestNotValid(t *testing.T) {
	for _, m := range []One{{}, {0, 10, 5, 3, 3}, {0, 10, 5, 0, 0}, {1, 0, 0, 0, 0}, {1, 0, 0, 1, 0}, {1, 0, 0, 0, 1}, {1, 10, 5, 11, 5}, {1, 10, 5, 10, 6}, {1, 10, 5, 0, most}, {1, 10, 5, most, 0}, {1, 0, 5, 1, 5}, {1, 10, 0, 10, 1}, {most, most - 1, most, most, 0}, {most, most, most - 1, 0, most}} {
		for _, n := range edges() {
			if got := TickOne(m, n); got != (One{}) {
				t.Errorf("TickOne(%v, %d) is %v", m, n, got)
			}
			for _, came := range colours() {
				if got, colour := ColourOne(m, n, came); got != (One{}) || colour != api.Red {
					t.Errorf("ColourOne(%v, %d, %d) is %v, %d", m, n, came, got, colour)
				}
			}
		}
	}
	for _, m := range []Two{{}, {0, 1, 10, 5, 3, 3}, {0, 0, 10, 5, 3, 3}, {2, 1, 10, 5, 3, 3}, {1, 0, 10, 5, 3, 3}, {1, 1, 0, 5, 0, 3}, {1, 1, 10, 0, 3, 0}, {1, 1, 0, 0, 0, 0}, {1, 1, 10, 5, 11, 5}, {1, 1, 10, 5, 10, 6}, {1, 1, 10, 5, most, 5}, {1, 1, 10, 5, 0, most}, {most, most - 1, 10, 5, 3, 3}} {
		for _, n := range edges() {
			if got := TickTwo(m, n); got != (Two{}) {
				t.Errorf("TickTwo(%v, %d) is %v", m, n, got)
			}
			for _, came := range colours() {
				if got, colour := ColourTwo(m, n, came); got != (Two{}) || colour != api.Red {
					t.Errorf("ColourTwo(%v, %d, %d) is %v, %d", m, n, came, got, colour)
				}
			}
		}
	}
}

// 21.1: a meter is also valid with A and B from 0 on to just Near and Far.
func TestValid(t *testing.T) {
	for _, a := range []uint64{0, 1, 9, 10} {
		for _, b := range []uint64{0, 1, 4, 5} {
			one := One{1, 10, 5, a, b}
			if got := TickOne(one, 0); got != one {
				t.Errorf("TickOne(%v, 0) is %v", one, got)
			}
			if got, colour := ColourOne(one, 11, api.Green); got != one || colour != api.Red {
				t.Errorf("ColourOne(%v) is %v, %d", one, got, colour)
			}
			two := Two{1, 1, 10, 5, a, b}
			if got := TickTwo(two, 0); got != two {
				t.Errorf("TickTwo(%v, 0) is %v", two, got)
			}
			if got, colour := ColourTwo(two, 11, api.Green); got != two || colour != api.Red {
				t.Errorf("ColourTwo(%v) is %v, %d", two, got, colour)
			}
		}
	}
}

func big64(x uint64) *big.Int { return new(big.Int).SetUint64(x) }

// less returns the lesser one of both.
func less(x, y *big.Int) *big.Int {
	if x.Cmp(y) < 0 {
		return x
	}
	return y
}

// afterOne does what TickOne should, in exact numbers.
func afterOne(m One, ticks *big.Int) One {
	tokens := new(big.Int).Mul(big64(m.Rate), ticks)
	toA := less(tokens, big64(m.Near-m.A))
	toB := less(new(big.Int).Sub(tokens, toA), big64(m.Far-m.B))
	m.A, m.B = m.A+toA.Uint64(), m.B+toB.Uint64()
	return m
}

// afterTwo does what TickTwo should, in exact numbers.
func afterTwo(m Two, ticks *big.Int) Two {
	a := new(big.Int).Mul(big64(m.Slow), ticks)
	b := new(big.Int).Mul(big64(m.Fast), ticks)
	m.A = less(a.Add(a, big64(m.A)), big64(m.Near)).Uint64()
	m.B = less(b.Add(b, big64(m.B)), big64(m.Far)).Uint64()
	return m
}

// tickOne does ticks, and tells whether they do what they should.
func tickOne(t *testing.T, m One, ticks uint64) One {
	t.Helper()
	was := m
	got := TickOne(m, ticks)
	if want := afterOne(m, big64(ticks)); got != want || m != was {
		t.Fatalf("TickOne(%v, %d) is %v, not %v", was, ticks, got, want)
	}
	return got
}

// tickTwo does ticks, and tells whether they do what they should.
func tickTwo(t *testing.T, m Two, ticks uint64) Two {
	t.Helper()
	was := m
	got := TickTwo(m, ticks)
	if want := afterTwo(m, big64(ticks)); got != want || m != was {
		t.Fatalf("TickTwo(%v, %d) is %v, not %v", was, ticks, got, want)
	}
	return got
}

// counts returns the colour as which one counts.
func counts(came int) int {
	if came == api.Yellow || came == api.Red {
		return came
	}
	return api.Green
}

// colourOne colours a packet, and tells whether that does what it should.
func colourOne(t *testing.T, m One, n uint64, came int) (One, int) {
	t.Helper()
	was, want, c := m, m, api.Red
	if counts(came) == api.Green && n <= m.A {
		want.A, c = m.A-n, api.Green
	} else if counts(came) != api.Red && n <= m.B {
		want.B, c = m.B-n, api.Yellow
	}
	got, is := ColourOne(m, n, came)
	if got != want || is != c || m != was {
		t.Fatalf("ColourOne(%v, %d, %d) is %v, %d, not %v, %d", was, n, came, got, is, want, c)
	}
	if is < counts(came) { // 21.4
		t.Fatalf("a packet with the colour %d gets %d", came, is)
	}
	return got, is
}

// colourTwo colours a packet, and tells whether that does what it should.
func colourTwo(t *testing.T, m Two, n uint64, came int) (Two, int) {
	t.Helper()
	was, want, c := m, m, api.Red
	if counts(came) != api.Red && n <= m.B {
		want.B, c = m.B-n, api.Yellow
		if counts(came) != api.Yellow && n <= m.A {
			want.A, c = m.A-n, api.Green
		}
	}
	got, is := ColourTwo(m, n, came)
	if got != want || is != c || m != was {
		t.Fatalf("ColourTwo(%v, %d, %d) is %v, %d, not %v, %d", was, n, came, got, is, want, c)
	}
	if is < counts(came) { // 21.4
		t.Fatalf("a packet with the colour %d gets %d", came, is)
	}
	return got, is
}

// 21.2: room in A alone, in B alone, in both and in none; just as many tokens as
// A has room for and one more; products greater than 2^64 - 1.
func TestTickOne(t *testing.T) {
	for _, x := range []struct {
		m     One
		ticks uint64
		a, b  uint64
	}{
		{One{1, 10, 5, 6, 5}, 3, 9, 5}, {One{1, 10, 5, 6, 5}, 4, 10, 5}, {One{1, 10, 5, 6, 5}, 5, 10, 5}, {One{1, 10, 5, 6, 5}, most, 10, 5},
		{One{1, 10, 5, 10, 2}, 2, 10, 4}, {One{1, 10, 5, 10, 2}, 3, 10, 5}, {One{1, 10, 5, 10, 2}, 4, 10, 5}, {One{1, 10, 5, 10, 2}, most, 10, 5},
		{One{1, 10, 5, 6, 2}, 0, 6, 2}, {One{1, 10, 5, 6, 2}, 3, 9, 2}, {One{1, 10, 5, 6, 2}, 4, 10, 2}, {One{1, 10, 5, 6, 2}, 5, 10, 3}, {One{1, 10, 5, 6, 2}, 7, 10, 5}, {One{1, 10, 5, 6, 2}, 8, 10, 5}, {One{1, 10, 5, 6, 2}, most, 10, 5},
		{One{1, 10, 5, 10, 5}, 0, 10, 5}, {One{1, 10, 5, 10, 5}, 1, 10, 5}, {One{1, 10, 5, 10, 5}, most, 10, 5},
		{One{3, 10, 5, 6, 2}, 1, 9, 2}, {One{3, 10, 5, 6, 2}, 2, 10, 4}, {One{3, 10, 5, 6, 2}, 3, 10, 5}, {One{4, 10, 5, 6, 2}, 1, 10, 2}, {One{5, 10, 5, 6, 2}, 1, 10, 3}, {One{most, 10, 5, 6, 2}, 1, 10, 5},
		// Only one of the buckets can have any.
		{One{1, 0, 5, 0, 0}, 3, 0, 3}, {One{1, 0, 5, 0, 0}, most, 0, 5}, {One{1, 10, 0, 0, 0}, 3, 3, 0}, {One{1, 10, 0, 0, 0}, most, 10, 0},
		// More tokens than the greatest number: both buckets are filled by the exact product.
		{One{most, most, most, 0, 0}, 1, most, 0}, {One{most, most, most, 0, 0}, 2, most, most}, {One{most, most, most, 1, 0}, 1, most, 1}, {One{most, most, most, 0, 0}, most, most, most},
		{One{1 << 63, most, most, 0, 0}, 1, 1 << 63, 0}, {One{1 << 63, most, most, 0, 0}, 2, most, 1}, {One{1 << 63, most, most, 0, 0}, 3, most, 1<<63 + 1}, {One{1 << 63, most, most, 0, 0}, 4, most, most},
		{One{1 << 32, most, most, 0, 0}, 1 << 32, most, 1}, {One{1 << 32, most, most, 5, 7}, 1 << 32, most, 13}, {One{1 << 32, most, most, 5, 7}, 1<<32 + 1, most, 1<<32 + 13}, {One{1 << 32, most, 12, 5, 7}, 1 << 32, most, 12}, {One{1 << 32, most, 13, 5, 7}, 1 << 32, most, 13}, {One{1 << 32, most, 14, 5, 7}, 1 << 32, most, 13},
		{One{1 << 32, 10, 5, 0, 0}, 1 << 32, 10, 5}, {One{1 << 32, most, most, most, 0}, 1 << 32, most, most}, {One{1 << 32, most, most, most, 0}, 1<<32 - 1, most, most - 1<<32 + 1}, {One{most, most, most, most, most}, most, most, most},
	} {
		if got := tickOne(t, x.m, x.ticks); got.A != x.a || got.B != x.b {
			t.Errorf("TickOne(%v, %d) is %v", x.m, x.ticks, got)
		}
	}
}

// 21.2: each bucket by its own rate, whatever room the other one has.
func TestTickTwo(t *testing.T) {
	for _, x := range []struct {
		m     Two
		ticks uint64
		a, b  uint64
	}{
		{Two{1, 3, 10, 20, 4, 2}, 0, 4, 2}, {Two{1, 3, 10, 20, 4, 2}, 1, 5, 5}, {Two{1, 3, 10, 20, 4, 2}, 5, 9, 17}, {Two{1, 3, 10, 20, 4, 2}, 6, 10, 20}, {Two{1, 3, 10, 20, 4, 2}, 7, 10, 20}, {Two{1, 3, 10, 20, 4, 2}, most, 10, 20},
		{Two{1, 3, 10, 20, 10, 2}, 1, 10, 5}, {Two{1, 3, 10, 20, 4, 20}, 1, 5, 20}, {Two{1, 3, 10, 20, 10, 20}, 1, 10, 20}, {Two{1, 3, 10, 20, 9, 18}, 1, 10, 20}, {Two{1, 3, 10, 20, 9, 17}, 1, 10, 20}, {Two{1, 3, 10, 20, 9, 16}, 1, 10, 19},
		{Two{2, 2, 10, 5, 1, 1}, 1, 3, 3}, {Two{2, 2, 10, 5, 1, 1}, 2, 5, 5}, {Two{2, 2, 10, 5, 1, 1}, 3, 7, 5}, {Two{1, most, 10, 5, 1, 1}, 1, 2, 5}, {Two{1, most, 10, 5, 1, 1}, most, 10, 5},
		{Two{1, most, most, most, 0, 0}, 1, 1, most}, {Two{1, most, most, most, 0, 5}, 2, 2, most}, {Two{most, most, most, most, 1, 5}, most, most, most}, {Two{1, 1, most, most, 0, 5}, most - 3, most - 3, most},
		{Two{1 << 31, 1 << 32, most, most, 7, 7}, 1 << 32, 1<<63 + 7, most}, {Two{1 << 31, 1 << 32, most, most, 7, 7}, 1<<32 - 1, 1<<63 - 1<<31 + 7, most - 1<<32 + 8}, {Two{1 << 32, 1 << 32, 9, 9, 7, 7}, 1 << 32, 9, 9}, {Two{1 << 62, 1 << 63, most, most, 0, 0}, 2, 1 << 63, most},
	} {
		if got := tickTwo(t, x.m, x.ticks); got.A != x.a || got.B != x.b {
			t.Errorf("TickTwo(%v, %d) is %v", x.m, x.ticks, got)
		}
	}
}

// 21.3: each colour that a packet may come with, and colours that are none;
// packets of 0 bytes, of just A, of just B and of one more.
func TestColourOne(t *testing.T) {
	for _, x := range []struct {
		a, b   uint64
		n      uint64
		came   int
		colour int
	}{
		{7, 4, 0, api.Green, api.Green}, {7, 4, 4, api.Green, api.Green}, {7, 4, 5, api.Green, api.Green}, {7, 4, 7, api.Green, api.Green}, {7, 4, 8, api.Green, api.Red}, {7, 4, most, api.Green, api.Red},
		{2, 4, 2, api.Green, api.Green}, {2, 4, 3, api.Green, api.Yellow}, {2, 4, 4, api.Green, api.Yellow}, {2, 4, 5, api.Green, api.Red}, {4, 4, 4, api.Green, api.Green}, {4, 4, 5, api.Green, api.Red},
		{7, 4, 0, api.Yellow, api.Yellow}, {7, 4, 4, api.Yellow, api.Yellow}, {7, 4, 5, api.Yellow, api.Red}, {7, 4, 7, api.Yellow, api.Red}, {7, 4, most, api.Yellow, api.Red}, {7, 0, 0, api.Yellow, api.Yellow}, {7, 0, 1, api.Yellow, api.Red},
		{7, 4, 0, api.Red, api.Red}, {7, 4, 1, api.Red, api.Red}, {7, 4, 4, api.Red, api.Red}, {7, 4, most, api.Red, api.Red}, {0, 0, 0, api.Red, api.Red},
		{0, 0, 0, api.Green, api.Green}, {0, 0, 0, api.Yellow, api.Yellow}, {0, 0, 1, api.Green, api.Red}, {0, 1, 1, api.Green, api.Yellow}, {1, 0, 1, api.Yellow, api.Red},
		{7, 4, 7, 0, api.Green}, {7, 4, 7, 4, api.Green}, {7, 4, 7, -1, api.Green}, {7, 4, 7, -2, api.Green}, {7, 4, 7, -3, api.Green}, {7, 4, 7, math.MinInt, api.Green}, {7, 4, 7, math.MaxInt, api.Green}, {2, 4, 4, 0, api.Yellow}, {2, 4, 4, -1, api.Yellow}, {2, 4, 5, 4, api.Red}, {7, 4, 7, 1<<32 + 3, api.Green},
	} {
		m := One{3, 9, 6, x.a, x.b}
		want := m
		switch x.colour {
		case api.Green:
			want.A -= x.n
		case api.Yellow:
			want.B -= x.n
		}
		if got, colour := colourOne(t, m, x.n, x.came); colour != x.colour || got != want {
			t.Errorf("ColourOne(%v, %d, %d) is %v, %d", m, x.n, x.came, got, colour)
		}
	}
}

// 21.3: the same with two rates: a green packet takes from both.
func TestColourTwo(t *testing.T) {
	for _, x := range []struct {
		a, b   uint64
		n      uint64
		came   int
		colour int
	}{
		{4, 7, 0, api.Green, api.Green}, {4, 7, 3, api.Green, api.Green}, {4, 7, 4, api.Green, api.Green}, {4, 7, 5, api.Green, api.Yellow}, {4, 7, 7, api.Green, api.Yellow}, {4, 7, 8, api.Green, api.Red}, {4, 7, most, api.Green, api.Red},
		{7, 4, 4, api.Green, api.Green}, {7, 4, 5, api.Green, api.Red}, {7, 4, 7, api.Green, api.Red}, {4, 4, 4, api.Green, api.Green}, {4, 4, 5, api.Green, api.Red},
		{4, 7, 0, api.Yellow, api.Yellow}, {4, 7, 4, api.Yellow, api.Yellow}, {4, 7, 7, api.Yellow, api.Yellow}, {4, 7, 8, api.Yellow, api.Red}, {7, 4, 5, api.Yellow, api.Red}, {7, 0, 0, api.Yellow, api.Yellow}, {7, 0, 1, api.Yellow, api.Red},
		{4, 7, 0, api.Red, api.Red}, {4, 7, 1, api.Red, api.Red}, {4, 7, 7, api.Red, api.Red}, {4, 7, 8, api.Red, api.Red}, {0, 0, 0, api.Red, api.Red},
		{0, 0, 0, api.Green, api.Green}, {0, 0, 0, api.Yellow, api.Yellow}, {0, 0, 1, api.Green, api.Red}, {0, 1, 1, api.Green, api.Yellow}, {1, 0, 1, api.Green, api.Red}, {1, 1, 1, api.Green, api.Green},
		{4, 7, 4, 0, api.Green}, {4, 7, 4, 4, api.Green}, {4, 7, 4, -1, api.Green}, {4, 7, 4, -2, api.Green}, {4, 7, 4, -3, api.Green}, {4, 7, 4, math.MinInt, api.Green}, {4, 7, 4, math.MaxInt, api.Green}, {4, 7, 5, 0, api.Yellow}, {4, 7, 8, -1, api.Red}, {4, 7, 4, 1<<32 + 3, api.Green},
	} {
		m := Two{3, 5, 9, 8, x.a, x.b}
		want := m
		switch x.colour {
		case api.Green:
			want.A, want.B = m.A-x.n, m.B-x.n
		case api.Yellow:
			want.B -= x.n
		}
		if got, colour := colourTwo(t, m, x.n, x.came); colour != x.colour || got != want {
			t.Errorf("ColourTwo(%v, %d, %d) is %v, %d", m, x.n, x.came, got, colour)
		}
	}
}

// someUpTo returns those of the numbers that are at most as great as the last one.
func someUpTo(last uint64) []uint64 {
	l := []uint64{last}
	for _, x := range append(edges(), last/2) {
		if x < last {
			l = append(l, x)
		}
	}
	return l
}

// 21.2, 21.3, 21.4: all meters that differ somewhere.
func TestAll(t *testing.T) {
	for _, rate := range []uint64{1, 3, 1 << 32, most} {
		for _, near := range []uint64{0, 1, 10, 1 << 63, most} {
			for _, far := range []uint64{0, 1, 10, 1 << 63, most} {
				for _, a := range someUpTo(near) {
					for _, b := range someUpTo(far) {
						one, two := One{rate, near, far, a, b}, Two{rate - rate/2, rate, near, far, a, b}
						if _, err := NewOne(rate, near, far); err == api.OK {
							for _, n := range append(edges(), a, a+1, b, b+1, near-a, near-a+1, most/rate) {
								tickOne(t, one, n)
								for _, came := range []int{0, 1, 2, 3, 4} {
									colourOne(t, one, n, came)
								}
							}
						}
						if _, err := NewTwo(rate-rate/2, rate, near, far); err == api.OK {
							for _, n := range append(edges(), a, a+1, b, b+1, near-a, far-b, most/rate) {
								tickTwo(t, two, n)
								for _, came := range []int{0, 1, 2, 3, 4} {
									colourTwo(t, two, n, came)
								}
							}
						}
					}
				}
			}
		}
	}
}

// 21.2: several ticks have the same effect as one for their sum.
func TestTicksTogether(t *testing.T) {
	for _, rate := range []uint64{1, 3, 1 << 32, 1 << 63, most} {
		for _, near := range []uint64{0, 1, 10, 1 << 63, most} {
			for _, far := range []uint64{1, 7, 1 << 63, most} {
				for _, x := range edges() {
					for _, y := range edges() {
						sum := new(big.Int).Add(big64(x), big64(y))
						one := One{rate, near, far, near / 2, far / 3}
						if got, want := TickOne(TickOne(one, x), y), afterOne(one, sum); got != want {
							t.Errorf("after %d and %d ticks %v is %v, not %v", x, y, one, got, want)
						}
						if near == 0 {
							continue
						}
						two := Two{rate - rate/2, rate, near, far, near / 2, far / 3}
						if got, want := TickTwo(TickTwo(two, x), y), afterTwo(two, sum); got != want {
							t.Errorf("after %d and %d ticks %v is %v, not %v", x, y, two, got, want)
						}
					}
				}
			}
		}
	}
	one, two := One{3, 100, 50, 0, 7}, Two{3, 4, 100, 150, 0, 7}
	stepOne, stepTwo := one, two
	for ticks := range uint64(80) {
		if TickOne(one, ticks) != stepOne || TickTwo(two, ticks) != stepTwo {
			t.Errorf("after %d single ticks the meters are %v and %v", ticks, stepOne, stepTwo)
		}
		stepOne, stepTwo = TickOne(stepOne, 1), TickTwo(stepTwo, 1)
	}
}

// 21.3, the chapter's example, and the same with two rates.
func TestExamples(t *testing.T) {
	one, _ := NewOne(1, 10, 5)
	for i, x := range []struct {
		n      uint64
		colour int
	}{{8, api.Green}, {5, api.Yellow}, {3, api.Red}, {2, api.Green}, {1, api.Red}, {0, api.Green}} {
		var colour int
		if one, colour = colourOne(t, one, x.n, api.Green); colour != x.colour {
			t.Errorf("packet %d is %d, not %d", i, colour, x.colour)
		}
	}
	two, _ := NewTwo(1, 2, 10, 15)
	for i, x := range []struct {
		n      uint64
		colour int
	}{{8, api.Green}, {5, api.Yellow}, {3, api.Red}, {2, api.Green}, {1, api.Red}, {0, api.Green}} {
		var colour int
		if two, colour = colourTwo(t, two, x.n, api.Green); colour != x.colour {
			t.Errorf("packet %d is %d, not %d", i, colour, x.colour)
		}
	}
}

// row keeps, for each time so far, how many ticks had gone by and how many bytes
// had become green.
type row struct {
	ticks, green []uint64
}

// check tells whether between the last time and each one before it at most near
// bytes, plus rate for each tick in between, became green.
func (r row) check(t *testing.T, rate, near uint64) {
	t.Helper()
	last := len(r.ticks) - 1
	for i := range r.ticks {
		allowed := new(big.Int).Mul(big64(rate), big64(r.ticks[last]-r.ticks[i]))
		allowed.Add(allowed, big64(near))
		if green := r.green[last] - r.green[i]; big64(green).Cmp(allowed) > 0 {
			t.Fatalf("with the rate %d and %d at most, %d bytes become green in %d ticks", rate, near, green, r.ticks[last]-r.ticks[i])
		}
	}
}

// next returns the row with one more time.
func (r row) next(ticks, green uint64) row {
	last := len(r.ticks) - 1
	return row{append(r.ticks[:last+1:last+1], r.ticks[last]+ticks), append(r.green[:last+1:last+1], r.green[last]+green)}
}

// 21.4, 21.5: all short rows of ticks and packets.
func TestShortRows(t *testing.T) {
	for _, near := range []uint64{0, 1, 3, 5} {
		for _, far := range []uint64{0, 2, 4} {
			start := row{[]uint64{0}, []uint64{0}}
			if m, err := NewOne(2, near, far); err == api.OK {
				tryOne(t, m, start, 4)
			}
			if m, err := NewTwo(2, 3, near, far); err == api.OK {
				tryTwo(t, m, start, 4)
			}
		}
	}
}

// tryOne does each of a few things, and each of them again after each.
func tryOne(t *testing.T, m One, r row, depth int) {
	r.check(t, m.Rate, m.Near)
	if depth == 0 {
		return
	}
	for _, ticks := range []uint64{1, 2} {
		tryOne(t, tickOne(t, m, ticks), r.next(ticks, 0), depth-1)
	}
	for _, n := range []uint64{0, 1, 3, 4} {
		for _, came := range []int{0, api.Yellow, api.Red} {
			after, colour := colourOne(t, m, n, came)
			green := uint64(0)
			if colour == api.Green {
				green = n
			}
			tryOne(t, after, r.next(0, green), depth-1)
		}
	}
}

// tryTwo does each of a few things, and each of them again after each.
func tryTwo(t *testing.T, m Two, r row, depth int) {
	r.check(t, m.Slow, m.Near)
	if depth == 0 {
		return
	}
	for _, ticks := range []uint64{1, 2} {
		tryTwo(t, tickTwo(t, m, ticks), r.next(ticks, 0), depth-1)
	}
	for _, n := range []uint64{0, 1, 3, 4} {
		for _, came := range []int{0, api.Yellow, api.Red} {
			after, colour := colourTwo(t, m, n, came)
			green := uint64(0)
			if colour == api.Green {
				green = n
			}
			tryTwo(t, after, r.next(0, green), depth-1)
		}
	}
}

// 21.4, 21.5: long rows by chance; most packets come Green. With one rate, what
// is green or yellow also stays within the rate and both buckets.
func TestLongRows(t *testing.T) {
	for _, x := range [][4]uint64{{3, 4, 10, 5}, {1, 1, 1, 1}, {10, 11, 3, 8}, {7, 9, 100, 50}, {1, 1 << 20, 1000, 1 << 20}, {1 << 40, 1 << 41, 1 << 50, 1 << 50}} {
		one, _ := NewOne(x[0], x[2], x[3])
		two, _ := NewTwo(x[0], x[1], x[2], x[3])
		start := row{[]uint64{0}, []uint64{0}}
		first, second, both := start, start, start
		seed := x[0] + x[3]
		for range 500 {
			seed = seed*6364136223846793005 + 1442695040888963407
			if ticks := seed >> 61; seed>>40%2 == 0 {
				one, two = tickOne(t, one, ticks), tickTwo(t, two, ticks)
				first, second, both = first.next(ticks, 0), second.next(ticks, 0), both.next(ticks, 0)
			} else {
				n, came := seed>>33%(x[2]+2), int(seed>>50%6)
				var a, b int
				one, a = colourOne(t, one, n, came)
				two, b = colourTwo(t, two, n, came)
				first, second, both = first.next(0, bytes(n, a == api.Green)), second.next(0, bytes(n, b == api.Green)), both.next(0, bytes(n, a != api.Red))
			}
			first.check(t, x[0], x[2])
			second.check(t, x[0], x[2])
			both.check(t, x[0], x[2]+x[3])
		}
		if first.green[500] == 0 || second.green[500] == 0 {
			t.Errorf("with %v nothing is green", x)
		}
	}
}

// bytes returns n, or 0 if that is not so.
func bytes(n uint64, is bool) uint64 {
	if is {
		return n
	}
	return 0
}

// 21.5: a row of green packets gets the rate, and not more.
func TestRateIsReached(t *testing.T) {
	one, _ := NewOne(3, 10, 5)
	two, _ := NewTwo(3, 4, 10, 10)
	var a, b uint64
	for range 1000 {
		for range 12 {
			var c int
			if one, c = colourOne(t, one, 1, api.Green); c == api.Green {
				a++
			}
			if two, c = colourTwo(t, two, 1, api.Green); c == api.Green {
				b++
			}
		}
		one, two = tickOne(t, one, 1), tickTwo(t, two, 1)
	}
	if want := uint64(10 + 999*3); a != want || b != want {
		t.Errorf("%d and %d bytes are green, not %d", a, b, want)
	}
}

// P2: a meter can be kept, and gone on with twice.
func TestMetersAreValues(t *testing.T) {
	one, _ := NewOne(3, 10, 5)
	two, _ := NewTwo(3, 4, 10, 15)
	for i := range uint64(300) {
		a, x := ColourOne(TickOne(one, i%4), i%9, int(i%5))
		c, v := ColourTwo(TickTwo(two, i%4), i%9, int(i%5))
		ColourOne(TickOne(one, most), 3, api.Green)
		ColourTwo(TickTwo(two, most), 3, api.Green)
		b, y := ColourOne(TickOne(one, i%4), i%9, int(i%5))
		d, w := ColourTwo(TickTwo(two, i%4), i%9, int(i%5))
		if a != b || x != y || c != d || v != w {
			t.Fatalf("the same calls are %v, %d, %v, %d and then %v, %d, %v, %d", a, x, c, v, b, y, d, w)
		}
		one, two = b, d
	}
}
