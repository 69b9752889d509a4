package bucket

import (
	"math/big"
	"testing"

	"pacemaker/api"
)

const most = api.MaxU64

// numbers are such at which something changes.
func numbers() []uint64 {
	return []uint64{0, 1, 2, 3, 7, 10, 1 << 32, 1<<63 - 1, 1 << 63, most - 1, most}
}

// 20.1
func TestNew(t *testing.T) {
	for _, rate := range numbers() {
		for _, burst := range numbers() {
			want, wrong := Bucket{rate, burst, burst}, api.OK
			if rate == 0 {
				want, wrong = Bucket{}, api.ErrRate
			} else if burst == 0 {
				want, wrong = Bucket{}, api.ErrBurst
			}
			if b, err := New(rate, burst); b != want || err != wrong {
				t.Errorf("New(%d, %d) is %v, %d", rate, burst, b, err)
			}
		}
	}
}

// wrong are buckets that are not valid, with what is wrong.
func wrong() map[Bucket]api.Errno {
	return map[Bucket]api.Errno{
		{}:                     api.ErrRate,
		{0, 1, 1}:              api.ErrRate,
		{0, most, 0}:           api.ErrRate,
		{0, 0, 1}:              api.ErrRate,
		{0, 1, 2}:              api.ErrRate,
		{1, 0, 0}:              api.ErrBurst,
		{most, 0, 0}:           api.ErrBurst,
		{1, 0, 1}:              api.ErrBurst,
		{1, 0, most}:           api.ErrBurst,
		{1, 1, 2}:              api.ErrBurst,
		{3, 10, 11}:            api.ErrBurst,
		{3, 10, most}:          api.ErrBurst,
		{most, most - 1, most}: api.ErrBurst,
	}
}

// 20.1: which error comes first, and that others are none.
func TestCheck(t *testing.T) {
	for b, want := range wrong() {
		if err := Check(b); err != want {
			t.Errorf("Check(%v) is %d, not %d", b, err, want)
		}
	}
	for _, b := range []Bucket{{1, 1, 0}, {1, 1, 1}, {3, 10, 0}, {3, 10, 9}, {3, 10, 10}, {most, 1, 1}, {1, most, most}, {most, most, most}, {most, most, 0}, {most, most, most - 1}} {
		if err := Check(b); err != api.OK {
			t.Errorf("Check(%v) is %d", b, err)
		}
	}
}

// 20.1: what the functions return for a bucket that is not valid.
func TestNotValid(t *testing.T) {
	for b := range wrong() {
		for _, n := range numbers() {
			if got := Tick(b, n); got != (Bucket{}) {
				t.Errorf("Tick(%v, %d) is %v", b, n, got)
			}
			if got, ok := Take(b, n); got != (Bucket{}) || ok {
				t.Errorf("Take(%v, %d) is %v, %t", b, n, got, ok)
			}
			if ticks, ok := Wait(b, n); ticks != 0 || ok {
				t.Errorf("Wait(%v, %d) is %d, %t", b, n, ticks, ok)
			}
		}
	}
}

// valid are buckets that are allowed.
func valid() []Bucket {
	var l []Bucket
	for _, rate := range numbers()[1:] {
		for _, burst := range numbers()[1:] {
			for _, tokens := range append(numbers(), burst-1, burst) {
				if tokens <= burst {
					l = append(l, Bucket{rate, burst, tokens})
				}
			}
		}
	}
	return l
}

func big64(x uint64) *big.Int { return new(big.Int).SetUint64(x) }

// after returns how many tokens there are after so many ticks, in exact numbers.
func after(b Bucket, ticks *big.Int) uint64 {
	sum := new(big.Int).Mul(big64(b.Rate), ticks)
	sum.Add(sum, big64(b.Tokens))
	if sum.Cmp(big64(b.Burst)) > 0 {
		return b.Burst
	}
	return sum.Uint64()
}

// tick does a tick, and tells whether it does what it should.
func tick(t *testing.T, b Bucket, ticks uint64) Bucket {
	t.Helper()
	was := b
	got := Tick(b, ticks)
	if want := (Bucket{b.Rate, b.Burst, after(b, big64(ticks))}); got != want {
		t.Fatalf("Tick(%v, %d) is %v, not %v", b, ticks, got, want)
	}
	if b != was {
		t.Fatalf("the bucket %v became %v", was, b)
	}
	return got
}

// take takes tokens, and tells whether it does what it should.
func take(t *testing.T, b Bucket, n uint64) (Bucket, bool) {
	t.Helper()
	was := b
	want, is := b, n <= b.Tokens
	if is {
		want.Tokens -= n
	}
	got, ok := Take(b, n)
	if got != want || ok != is {
		t.Fatalf("Take(%v, %d) is %v, %t, not %v, %t", b, n, got, ok, want, is)
	}
	if b != was {
		t.Fatalf("the bucket %v became %v", was, b)
	}
	return got, ok
}

// 20.2: Tick, worked out by hand, also where products and sums are greater than
// 2^64 - 1.
func TestTick(t *testing.T) {
	for _, x := range []struct {
		b     Bucket
		ticks uint64
		want  uint64
	}{
		{Bucket{3, 10, 0}, 0, 0}, {Bucket{3, 10, 0}, 1, 3}, {Bucket{3, 10, 0}, 3, 9}, {Bucket{3, 10, 0}, 4, 10}, {Bucket{3, 10, 0}, most, 10},
		{Bucket{3, 10, 6}, 1, 9}, {Bucket{3, 10, 7}, 1, 10}, {Bucket{3, 10, 8}, 1, 10}, {Bucket{3, 10, 10}, 0, 10}, {Bucket{3, 10, 10}, 1, 10}, {Bucket{3, 10, 5}, 0, 5},
		{Bucket{1, 1, 0}, 1, 1}, {Bucket{1, 1, 1}, most, 1}, {Bucket{most, 1, 0}, 1, 1}, {Bucket{most, 1, 0}, 0, 0},
		{Bucket{most, most, 0}, 1, most}, {Bucket{most, most, 0}, most, most}, {Bucket{most, most, 1}, 1, most}, {Bucket{most, most, most}, 1, most},
		{Bucket{1, most, 0}, most, most}, {Bucket{1, most, 0}, most - 1, most - 1}, {Bucket{1, most, 1}, most - 1, most}, {Bucket{1, most, 1}, most, most}, {Bucket{1, most, most}, most, most},
		// A product that would wrap round to 0, and to 1.
		{Bucket{1 << 32, most, 0}, 1 << 32, most}, {Bucket{1 << 32, most, 5}, 1<<32 - 1, most - 1<<32 + 1 + 5}, {Bucket{1 << 32, 10, 5}, 1 << 32, 10},
		{Bucket{most, most, 5}, most, most}, {Bucket{1 << 63, most, 5}, 2, most}, {Bucket{1 << 63, most, 5}, 1, 1<<63 + 5}, {Bucket{1 << 63, most, 1 << 63}, 1, most}, {Bucket{1 << 63, most, 1<<63 - 1}, 1, most},
	} {
		if got := tick(t, x.b, x.ticks); got.Tokens != x.want {
			t.Errorf("Tick(%v, %d) is %v", x.b, x.ticks, got)
		}
	}
}

// 20.2: Tick and Take for all buckets that differ somewhere.
func TestAll(t *testing.T) {
	for _, b := range valid() {
		for _, n := range append(numbers(), b.Tokens-1, b.Tokens, b.Tokens+1, b.Burst-1, b.Burst, b.Burst+1) {
			tick(t, b, n)
			take(t, b, n)
		}
	}
	for rate := range uint64(5) {
		for burst := range uint64(9) {
			for tokens := range burst + 1 {
				for n := range uint64(11) {
					if b := (Bucket{rate + 1, burst + 1, tokens}); Check(b) == api.OK {
						tick(t, b, n)
						take(t, b, n)
					}
				}
			}
		}
	}
}

// 20.2: Take of nothing, of just the tokens and of one more.
func TestTake(t *testing.T) {
	for _, x := range []struct {
		tokens, n, left uint64
		ok              bool
	}{
		{10, 0, 10, true}, {10, 1, 9, true}, {10, 9, 1, true}, {10, 10, 0, true}, {10, 11, 10, false}, {10, most, 10, false},
		{4, 4, 0, true}, {4, 5, 4, false}, {4, 10, 4, false}, {0, 0, 0, true}, {0, 1, 0, false}, {0, most, 0, false},
	} {
		if b, ok := take(t, Bucket{3, 10, x.tokens}, x.n); b != (Bucket{3, 10, x.left}) || ok != x.ok {
			t.Errorf("Take of %d of %d is %v, %t", x.n, x.tokens, b, ok)
		}
	}
	full := Bucket{1, most, most}
	if b, ok := take(t, full, most); b != (Bucket{1, most, 0}) || !ok {
		t.Errorf("Take is %v, %t", b, ok)
	}
	if b, ok := take(t, Bucket{1, most, most - 1}, most); b != (Bucket{1, most, most - 1}) || ok {
		t.Errorf("Take is %v, %t", b, ok)
	}
}

// 20.2: Wait, worked out by hand.
func TestWait(t *testing.T) {
	for _, x := range []struct {
		b     Bucket
		n     uint64
		ticks uint64
		ok    bool
	}{
		{Bucket{3, 10, 0}, 0, 0, true}, {Bucket{3, 10, 0}, 1, 1, true}, {Bucket{3, 10, 0}, 3, 1, true}, {Bucket{3, 10, 0}, 4, 2, true}, {Bucket{3, 10, 0}, 7, 3, true}, {Bucket{3, 10, 0}, 9, 3, true}, {Bucket{3, 10, 0}, 10, 4, true}, {Bucket{3, 10, 0}, 11, 0, false}, {Bucket{3, 10, 0}, most, 0, false},
		{Bucket{3, 10, 4}, 0, 0, true}, {Bucket{3, 10, 4}, 3, 0, true}, {Bucket{3, 10, 4}, 4, 0, true}, {Bucket{3, 10, 4}, 5, 1, true}, {Bucket{3, 10, 4}, 7, 1, true}, {Bucket{3, 10, 4}, 8, 2, true}, {Bucket{3, 10, 4}, 10, 2, true}, {Bucket{3, 10, 4}, 11, 0, false},
		{Bucket{3, 10, 10}, 10, 0, true}, {Bucket{3, 10, 10}, 0, 0, true}, {Bucket{3, 10, 10}, 11, 0, false},
		{Bucket{1, 1, 0}, 1, 1, true}, {Bucket{1, 1, 0}, 2, 0, false}, {Bucket{most, 1, 0}, 1, 1, true},
		{Bucket{1, most, 0}, most, most, true}, {Bucket{1, most, 1}, most, most - 1, true}, {Bucket{2, most, 0}, most, 1 << 63, true}, {Bucket{2, most, 1}, most, 1<<63 - 1, true},
		{Bucket{most, most, 0}, most, 1, true}, {Bucket{most, most, 0}, 1, 1, true}, {Bucket{most, most, most}, most, 0, true}, {Bucket{most - 1, most, 0}, most, 2, true}, {Bucket{most - 1, most, 1}, most, 1, true},
		{Bucket{3, most - 1, 0}, most - 1, most / 3, true}, {Bucket{3, most, 0}, most, most / 3, true}, {Bucket{3, most - 1, 0}, most, 0, false},
	} {
		if ticks, ok := Wait(x.b, x.n); ticks != x.ticks || ok != x.ok {
			t.Errorf("Wait(%v, %d) is %d, %t, not %d, %t", x.b, x.n, ticks, ok, x.ticks, x.ok)
		}
	}
}

// 20.2: after as many ticks as Wait returns there are the tokens, and after one
// less there are not.
func TestWaitAgainstTick(t *testing.T) {
	for _, b := range valid() {
		for _, n := range append(numbers(), b.Tokens, b.Tokens+1, b.Burst-1, b.Burst, b.Burst+1) {
			ticks, ok := Wait(b, n)
			if ok != (n <= b.Burst) || !ok && ticks != 0 {
				t.Errorf("Wait(%v, %d) is %d, %t", b, n, ticks, ok)
			}
			if !ok {
				continue
			}
			if _, enough := Take(Tick(b, ticks), n); !enough {
				t.Errorf("after %d ticks %v has not %d tokens", ticks, b, n)
			}
			if ticks == 0 {
				continue
			}
			if _, enough := Take(Tick(b, ticks-1), n); enough {
				t.Errorf("after %d ticks, one less, %v has %d tokens", ticks-1, b, n)
			}
		}
	}
}

// 20.2, the chapter's example.
func TestExample(t *testing.T) {
	b, err := New(3, 10)
	if b != (Bucket{3, 10, 10}) || err != api.OK {
		t.Fatalf("New is %v, %d", b, err)
	}
	b, ok := Take(b, 10)
	if b != (Bucket{3, 10, 0}) || !ok {
		t.Errorf("Take is %v, %t", b, ok)
	}
	if ticks, ok := Wait(b, 7); ticks != 3 || !ok {
		t.Errorf("Wait is %d, %t", ticks, ok)
	}
	if b := Tick(b, 3); b.Tokens != 9 {
		t.Errorf("Tick is %v", b)
	}
}

// 20.4: several Ticks have the same effect as one for their sum, also if that is
// greater than 2^64 - 1.
func TestTicksTogether(t *testing.T) {
	for _, b := range valid() {
		for _, x := range numbers() {
			for _, y := range numbers() {
				for _, z := range []uint64{0, 1, most} {
					got := Tick(Tick(Tick(b, x), y), z)
					sum := new(big.Int).Add(big64(x), big64(y))
					sum.Add(sum, big64(z))
					if want := after(b, sum); got.Tokens != want {
						t.Errorf("%v has %d tokens after %d, %d and %d ticks, not %d", b, got.Tokens, x, y, z, want)
					}
					if sum.IsUint64() && Tick(b, sum.Uint64()) != got {
						t.Errorf("%v has not as many tokens after %d, %d and %d ticks as after all of them", b, x, y, z)
					}
				}
			}
		}
	}
}

// 20.4: a tick at a time.
func TestTickByTick(t *testing.T) {
	for _, b := range []Bucket{{1, 1, 0}, {3, 10, 0}, {3, 10, 4}, {7, 1000, 3}, {1, 1000, 0}, {most, most, 0}, {1 << 62, most, 1}, {5, most, most - 12}} {
		step := b
		for ticks := range uint64(1100) {
			if want := Tick(b, ticks); step != want {
				t.Fatalf("after %d single ticks %v is %v, not %v", ticks, b, step, want)
			}
			step = Tick(step, 1)
		}
	}
}

// row keeps, for each time so far, how many ticks had gone by and how many
// tokens had been taken.
type row struct {
	ticks, taken []uint64
}

// check tells whether between the last time and each one before it at most Burst
// tokens, plus Rate for each tick in between, were taken.
func (r row) check(t *testing.T, b Bucket) {
	t.Helper()
	last := len(r.ticks) - 1
	for i := range r.ticks {
		allowed := new(big.Int).Mul(big64(b.Rate), big64(r.ticks[last]-r.ticks[i]))
		allowed.Add(allowed, big64(b.Burst))
		if taken := r.taken[last] - r.taken[i]; big64(taken).Cmp(allowed) > 0 {
			t.Fatalf("with %v, %d tokens are taken in %d ticks", b, taken, r.ticks[last]-r.ticks[i])
		}
	}
}

// 20.3: all short rows of ticks and takes.
func TestShortRows(t *testing.T) {
	for _, rate := range []uint64{1, 2, 3} {
		for _, burst := range []uint64{1, 2, 5} {
			b, _ := New(rate, burst)
			try(t, b, row{[]uint64{0}, []uint64{0}}, 5)
		}
	}
}

// try does each of a few things, and each of them again after each.
func try(t *testing.T, b Bucket, r row, depth int) {
	r.check(t, b)
	if depth == 0 {
		return
	}
	last := len(r.ticks) - 1
	now, taken := r.ticks[last], r.taken[last]
	for _, n := range []uint64{1, 2, 4} {
		next := row{append(r.ticks[:last+1:last+1], now+n), append(r.taken[:last+1:last+1], taken)}
		try(t, tick(t, b, n), next, depth-1)
	}
	for _, n := range []uint64{0, 1, 2, 5, 6} {
		left, ok := take(t, b, n)
		if !ok {
			n = 0
		}
		next := row{append(r.ticks[:last+1:last+1], now), append(r.taken[:last+1:last+1], taken+n)}
		try(t, left, next, depth-1)
	}
}

// 20.3: long rows, in which as much is taken as there is, or by chance.
func TestLongRows(t *testing.T) {
	for _, b := range []Bucket{{1, 1, 1}, {3, 10, 10}, {10, 3, 3}, {7, 100, 100}, {1, 1 << 20, 1 << 20}, {1 << 20, 1, 1}, {1 << 40, 1 << 50, 1 << 50}} {
		for _, greedy := range []bool{false, true} {
			r := row{[]uint64{0}, []uint64{0}}
			seed := b.Rate + b.Burst
			at, taken := uint64(0), uint64(0)
			for range 400 {
				seed = seed*6364136223846793005 + 1442695040888963407
				n := seed >> 33 % (b.Burst + b.Burst/4 + 2)
				if ticks := seed >> 60; seed>>40%2 == 0 {
					b, at = tick(t, b, ticks), at+ticks
				} else {
					if greedy {
						n = b.Tokens
					}
					var ok bool
					if b, ok = take(t, b, n); ok {
						taken += n
					}
				}
				r.ticks, r.taken = append(r.ticks, at), append(r.taken, taken)
				r.check(t, b)
			}
			if taken == 0 || at == 0 {
				t.Errorf("with %v nothing happened", b)
			}
		}
	}
}

// 20.3: who waits as long as Wait says gets the rate, however time is divided.
func TestRateIsReached(t *testing.T) {
	// With more than 8 the bucket could be full before there are enough.
	for _, each := range []uint64{1, 2, 3, 7, 8} {
		b := Bucket{3, 10, 0}
		at, taken := uint64(0), uint64(0)
		for range 300 {
			ticks, ok := Wait(b, each)
			if !ok {
				t.Fatalf("Wait(%v, %d) is false", b, each)
			}
			for range ticks {
				b, at = tick(t, b, 1), at+1
			}
			if b, ok = take(t, b, each); !ok {
				t.Fatalf("after %d ticks there are not %d tokens", ticks, each)
			}
			taken += each
			// Nothing is lost while the bucket is not full.
			if at*3 != taken+b.Tokens {
				t.Fatalf("after %d ticks %d tokens are taken and %d left", at, taken, b.Tokens)
			}
		}
	}
}

// P2: a bucket can be kept, and gone on with twice.
func TestBucketIsAValue(t *testing.T) {
	b, _ := New(3, 10)
	for i := range uint64(200) {
		x, one := Take(Tick(b, i%5), i%7)
		Tick(b, most)
		Take(b, 10)
		Take(x, 10)
		y, two := Take(Tick(b, i%5), i%7)
		if x != y || one != two {
			t.Fatalf("the same calls are %v, %t and then %v, %t", x, one, y, two)
		}
		b = y
	}
}
