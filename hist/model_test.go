package hist

import (
	"math/big"
	"math/bits"
	"slices"
	"testing"

	"pacemaker/api"
)

const most = api.MaxU64

// random returns a function whose result is less than n.
func random(seed uint64) func(n uint64) uint64 {
	return func(n uint64) uint64 {
		seed = seed*6364136223846793005 + 1442695040888963407
		return seed >> 33 % n
	}
}

// anyNumber returns a number of any size.
func anyNumber(next func(n uint64) uint64) uint64 {
	n := next(1<<31)<<33 ^ next(1<<31)<<16 ^ next(1<<31)
	return n >> next(64)
}

// bucketOf is the bucket of n by the definition.
func bucketOf(fine int, n uint64) int {
	if n < 1<<fine {
		return int(n)
	}
	k := bits.Len64(n) - 1
	return (k-fine)*(1<<fine) + int(n/(1<<(k-fine)))
}

// lowOf is the least number whose bucket is at least this one, found bit by
// bit: a greater number does not have a lesser bucket.
func lowOf(fine, bucket int) (uint64, bool) {
	if bucketOf(fine, most) < bucket {
		return 0, false
	}
	var below uint64 // if any number is below, this many are
	for i := 63; i >= 0; i-- {
		if more := below + 1<<i; bucketOf(fine, more-1) < bucket {
			below = more
		}
	}
	return below, true
}

// rangeOf is the least number of a bucket, and the greatest one.
func rangeOf(fine, bucket int) (uint64, uint64, bool) {
	low, ok := lowOf(fine, bucket)
	if !ok || bucketOf(fine, low) != bucket {
		return 0, 0, false
	}
	high := uint64(most)
	if next, ok := lowOf(fine, bucket+1); ok {
		high = next - 1
	}
	return low, high, true
}

// lastOf is the bucket of the greatest number.
func lastOf(fine int) int { return (65-fine)<<fine - 1 }

// edges are numbers at which buckets begin and end, and the numbers beside them.
func edges() []uint64 {
	l := []uint64{0, 1, 2, 3, 4, 5, 6, 7, 100, 12345678901234567890, most - 1, most}
	for k := range 64 {
		l = append(l, 1<<k-1, 1<<k, 1<<k+1, 3<<k>>1, 3<<k>>1-1)
	}
	for fine := range 9 {
		for k := fine; k < 64; k += 5 {
			step := uint64(1) << (k - fine)
			for _, n := range []uint64{1<<k + step, 1<<k + 2*step, 1<<(k+1) - step, 1<<(k+1) - 2*step} {
				l = append(l, n-1, n, n+1)
			}
		}
	}
	slices.Sort(l)
	return slices.Compact(l)
}

// pair is a number, and how often it was added.
type pair struct{ n, times uint64 }

// both are a histogram, and all that was added to it.
type both struct {
	t     *testing.T
	hist  *Hist
	fine  int
	pairs []pair
}

// newBoth makes a histogram.
func newBoth(t *testing.T, fine int, pairs ...pair) *both {
	t.Helper()
	h, err := New(fine)
	if h == nil || err != api.OK {
		t.Fatalf("New(%d) is %v, %d", fine, h, err)
	}
	b := &both{t: t, hist: h, fine: fine}
	b.check()
	for _, p := range pairs {
		b.add(p.n, p.times)
	}
	return b
}

// rows are what Rows should be.
func (b *both) rows() []Row {
	sums := map[int]*big.Int{}
	for _, p := range b.pairs {
		bucket := bucketOf(b.fine, p.n)
		if sums[bucket] == nil {
			sums[bucket] = new(big.Int)
		}
		sums[bucket].Add(sums[bucket], big64(p.times))
	}
	var l []Row
	for bucket, sum := range sums {
		low, high, _ := rangeOf(b.fine, bucket)
		if sum.Sign() > 0 {
			l = append(l, Row{low, high, capped(sum)})
		}
	}
	slices.SortFunc(l, func(x, y Row) int { return big64(x.Low).Cmp(big64(y.Low)) })
	return l
}

// count is what Count should be.
func (b *both) count() uint64 {
	sum := new(big.Int)
	for _, p := range b.pairs {
		sum.Add(sum, big64(p.times))
	}
	return capped(sum)
}

// part is what Part should be.
func (b *both) part(num, den uint64) (Row, bool) {
	l := b.rows()
	if len(l) == 0 || den == 0 || num > den {
		return Row{}, false
	}
	k := new(big.Int).Mul(big64(b.count()), big64(num))
	k.Add(k, big64(den-1)).Div(k, big64(den))
	if k.Sign() == 0 {
		k.SetUint64(1)
	}
	for _, r := range l {
		if k.Cmp(big64(r.Count)) <= 0 {
			return r, true
		}
		k.Sub(k, big64(r.Count))
	}
	b.t.Fatalf("the model has fewer numbers than it counts")
	return Row{}, false
}

// add adds a number to both.
func (b *both) add(n, times uint64) {
	b.t.Helper()
	b.hist.Add(n, times)
	b.pairs = append(b.pairs, pair{n, times})
}

// check tells whether the histogram is what it should be.
func (b *both) check() {
	b.t.Helper()
	if got, want := b.hist.Count(), b.count(); got != want {
		b.t.Fatalf("with %d fine bits and %v, Count is %d, not %d", b.fine, b.pairs, got, want)
	}
	if got, want := b.hist.Rows(), b.rows(); !slices.Equal(got, want) {
		b.t.Fatalf("with %d fine bits and %v, Rows is %v, not %v", b.fine, b.pairs, got, want)
	}
}

// checkPart tells whether Part is what it should be.
func (b *both) checkPart(num, den uint64) {
	b.t.Helper()
	got, is := b.hist.Part(num, den)
	if want, ok := b.part(num, den); got != want || is != ok {
		b.t.Fatalf("with %d fine bits and %v, Part(%d, %d) is %v, %v, not %v, %v", b.fine, b.pairs, num, den, got, is, want, ok)
	}
}

// merge merges o into b, which is checked, as is that o stays as it is.
func (b *both) merge(o *both) {
	b.t.Helper()
	if err := b.hist.Merge(o.hist); err != api.OK {
		b.t.Fatalf("Merge is %d", err)
	}
	b.pairs = append(b.pairs, o.pairs...)
	b.check()
	o.check()
}

func big64(x uint64) *big.Int { return new(big.Int).SetUint64(x) }

// capped returns x, or the greatest number if that is less.
func capped(x *big.Int) uint64 {
	if !x.IsUint64() {
		return most
	}
	return x.Uint64()
}
