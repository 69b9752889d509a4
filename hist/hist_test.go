package hist

import (
	"math"
	"slices"
	"testing"

	"pacemaker/api"
)

// 38.1: the chapter's example.
func TestExample(t *testing.T) {
	h := newBoth(t, 1).hist
	for _, n := range []uint64{4, 5} {
		if b := h.Bucket(n); b != 4 {
			t.Error(n, b)
		}
	}
	if low, high, ok := h.Range(4); low != 4 || high != 5 || !ok {
		t.Error(low, high, ok)
	}
	h.Add(5, 2)
	h.Add(4, 1)
	if l := h.Rows(); !slices.Equal(l, []Row{{4, 5, 3}}) {
		t.Error(l)
	}
}

// 38.1
func TestNew(t *testing.T) {
	for _, fine := range []int{math.MinInt, -1 << 32, -256, -8, -2, -1, 9, 10, 16, 63, 64, 255, 256, 1 << 32, 1<<32 + 1, math.MaxInt} {
		if h, err := New(fine); h != nil || err != api.ErrArg {
			t.Errorf("New(%d) is %v, %d", fine, h, err)
		}
	}
	for fine := range 9 {
		b := newBoth(t, fine)
		if l := b.hist.Rows(); len(l) != 0 || b.hist.Count() != 0 {
			t.Error(fine, l)
		}
	}
}

// 38.1
func TestConstants(t *testing.T) {
	if MaxFine != 8 {
		t.Error(MaxFine)
	}
}

// 38.1: buckets worked out by hand.
func TestBucket(t *testing.T) {
	for _, test := range []struct {
		fine    int
		buckets map[uint64]int
	}{
		{0, map[uint64]int{0: 0, 1: 1, 2: 2, 3: 2, 4: 3, 5: 3, 7: 3, 8: 4, 1<<63 - 1: 63, 1 << 63: 64, most: 64}},
		{1, map[uint64]int{0: 0, 1: 1, 2: 2, 3: 3, 4: 4, 5: 4, 6: 5, 7: 5, 8: 6, 11: 6, 12: 7, 15: 7, 1<<63 - 1: 125, 1 << 63: 126, 3 << 62: 127, most: 127}},
		{3, map[uint64]int{0: 0, 7: 7, 8: 8, 9: 9, 15: 15, 16: 16, 17: 16, 18: 17, 31: 23, 32: 24, 35: 24, 36: 25, most: 495}},
		{8, map[uint64]int{0: 0, 255: 255, 256: 256, 257: 257, 511: 511, 512: 512, 513: 512, 514: 513, 1023: 767, 1024: 768, most: 14591}},
	} {
		h := newBoth(t, test.fine).hist
		for n, want := range test.buckets {
			if got := h.Bucket(n); got != want {
				t.Errorf("with %d fine bits, the bucket of %d is %d, not %d", test.fine, n, got, want)
			}
		}
	}
}

// 38.1: buckets by the definition, and each number lies within its bucket.
func TestNumbers(t *testing.T) {
	next := random(1)
	numbers := edges()
	for range 20000 {
		numbers = append(numbers, anyNumber(next))
	}
	for n := range uint64(5000) {
		numbers = append(numbers, n, most-n)
	}
	for fine := range 9 {
		h := newBoth(t, fine).hist
		for _, n := range numbers {
			bucket := h.Bucket(n)
			if want := bucketOf(fine, n); bucket != want {
				t.Fatalf("with %d fine bits, the bucket of %d is %d, not %d", fine, n, bucket, want)
			}
			if low, high, ok := h.Range(bucket); n < low || n > high || !ok {
				t.Fatalf("with %d fine bits, %d is in bucket %d from %d to %d, %v", fine, n, bucket, low, high, ok)
			}
		}
	}
}

// 38.1: Range is from the least number to the greatest one of a bucket, by the
// definition, and Bucket inverts it.
func TestRange(t *testing.T) {
	for fine := range 9 {
		h := newBoth(t, fine).hist
		for bucket := -2; bucket <= lastOf(fine)+2; bucket++ {
			low, high, ok := h.Range(bucket)
			least, greatest, is := rangeOf(fine, bucket)
			if low != least || high != greatest || ok != is {
				t.Fatalf("with %d fine bits, Range(%d) is %d, %d, %v, not %d, %d, %v", fine, bucket, low, high, ok, least, greatest, is)
			}
			if ok && (h.Bucket(low) != bucket || h.Bucket(high) != bucket || h.Bucket(low+(high-low)/2) != bucket) {
				t.Fatalf("with %d fine bits, bucket %d is from %d to %d, which has other buckets", fine, bucket, low, high)
			}
		}
	}
}

// 38.1: buckets follow one another without a gap, from 0 to the greatest number.
func TestNoGap(t *testing.T) {
	for fine := range 9 {
		h := newBoth(t, fine).hist
		var next uint64
		for bucket := range lastOf(fine) {
			low, high, ok := h.Range(bucket)
			if low != next || high < low || high == most || !ok {
				t.Fatalf("with %d fine bits, bucket %d is from %d to %d, %v, behind what ends before %d", fine, bucket, low, high, ok, next)
			}
			next = high + 1
		}
		if low, high, ok := h.Range(lastOf(fine)); low != next || high != most || !ok {
			t.Fatalf("with %d fine bits, the last bucket is from %d to %d, %v", fine, low, high, ok)
		}
	}
}

// 38.1: no number has these buckets.
func TestNoRange(t *testing.T) {
	for fine := range 9 {
		h := newBoth(t, fine, pair{0, 1}, pair{5, 1}, pair{most, 1}).hist
		last := lastOf(fine)
		for _, bucket := range []int{
			math.MinInt, math.MinInt + 1, math.MinInt32, -1 << 32, -1<<32 + 1, -256, -64, -2, -1,
			last + 1, last + 2, last + 64, last + 1<<fine, 2 * last, 64 << 8, 65 << 8, 1 << 16, math.MaxInt32,
			1 << 32, 1<<32 + 1, 1<<32 + 64, 1 << 62, 1<<62 + 1, math.MaxInt - 1, math.MaxInt,
		} {
			if low, high, ok := h.Range(bucket); low != 0 || high != 0 || ok {
				t.Errorf("with %d fine bits, Range(%d) is %d, %d, %v", fine, bucket, low, high, ok)
			}
		}
	}
}

// 38.1: what is counted changes neither buckets nor their ranges.
func TestRangeOfCounted(t *testing.T) {
	for fine := range 9 {
		empty := newBoth(t, fine).hist
		b := newBoth(t, fine)
		for _, n := range edges() {
			b.hist.Add(n, most)
		}
		for bucket := -1; bucket <= lastOf(fine)+1; bucket++ {
			low, high, ok := b.hist.Range(bucket)
			if l, h, is := empty.Range(bucket); low != l || high != h || ok != is {
				t.Fatal(fine, bucket, low, high, ok, l, h, is)
			}
		}
		for _, n := range edges() {
			if b.hist.Bucket(n) != empty.Bucket(n) {
				t.Fatal(fine, n)
			}
		}
	}
}

// 38.4: the High of a bucket is at most Low plus Low divided by 2^fine.
func TestWidth(t *testing.T) {
	for fine := range 9 {
		h := newBoth(t, fine).hist
		for bucket := range lastOf(fine) + 1 {
			low, high, ok := h.Range(bucket)
			if !ok || high-low > low>>fine {
				t.Fatalf("with %d fine bits, bucket %d is from %d to %d, %v", fine, bucket, low, high, ok)
			}
		}
	}
}

// 38.2
func TestAdd(t *testing.T) {
	b := newBoth(t, 2)
	for _, p := range []pair{{9, 3}, {8, 1}, {1, 2}, {100, 4}, {9, 1}, {0, 1}, {most, 1}, {0, 6}} {
		b.add(p.n, p.times)
		b.check()
	}
	want := []Row{{0, 0, 7}, {1, 1, 2}, {8, 9, 5}, {96, 111, 4}, {7 << 61, most, 1}}
	if l := b.hist.Rows(); !slices.Equal(l, want) || b.hist.Count() != 19 {
		t.Error(l, b.hist.Count())
	}
}

// 38.2: 0 times is not at all, also where something is counted.
func TestAddNothing(t *testing.T) {
	for fine := range 9 {
		b := newBoth(t, fine)
		for _, n := range edges() {
			b.hist.Add(n, 0)
		}
		if l := b.hist.Rows(); len(l) != 0 || b.hist.Count() != 0 {
			t.Fatal(fine, l)
		}
		if r, ok := b.hist.Part(1, 1); r != (Row{}) || ok {
			t.Fatal(fine, r, ok)
		}
		b.add(70, 5)
		b.add(0, 1)
		for _, n := range edges() {
			b.hist.Add(n, 0)
		}
		b.check()
		if l := b.hist.Rows(); len(l) != 2 || b.hist.Count() != 6 {
			t.Fatal(fine, l)
		}
	}
}

// 38.2: counts, and the sum of all, stop at the greatest number.
func TestCapped(t *testing.T) {
	for _, test := range []struct {
		times []uint64
		want  uint64
	}{
		{[]uint64{most}, most},
		{[]uint64{most - 1}, most - 1},
		{[]uint64{most - 1, 1}, most},
		{[]uint64{most - 1, 2}, most},
		{[]uint64{most, 0}, most},
		{[]uint64{most, 1}, most},
		{[]uint64{most, most}, most},
		{[]uint64{1 << 63, 1<<63 - 1}, most},
		{[]uint64{1 << 63, 1 << 63}, most},
		{[]uint64{1 << 63, 1 << 63, 5}, most},
		{[]uint64{1 << 62, 1 << 62, 1 << 62, 1<<62 - 2}, most - 1},
	} {
		for fine := range 9 {
			// All in one bucket.
			b := newBoth(t, fine)
			for _, times := range test.times {
				b.add(most, times)
				b.check()
			}
			low, _, _ := rangeOf(fine, lastOf(fine))
			if l := b.hist.Rows(); !slices.Equal(l, []Row{{low, most, test.want}}) || b.hist.Count() != test.want {
				t.Errorf("with %d fine bits and %v, Rows is %v, Count %d", fine, test.times, l, b.hist.Count())
			}
			// Each in a bucket of its own: the counts are as they are.
			b = newBoth(t, fine)
			for i, times := range test.times {
				b.add(1<<(10*i), times)
				b.check()
			}
			if b.hist.Count() != test.want {
				t.Errorf("with %d fine bits and %v, Count is %d", fine, test.times, b.hist.Count())
			}
		}
	}
}

// 38.2: one bucket at the cap does not change another one.
func TestCappedBesideOthers(t *testing.T) {
	b := newBoth(t, 3, pair{5, most}, pair{6, 7}, pair{5, most}, pair{4, 1}, pair{1000, most - 1})
	b.check()
	want := []Row{{4, 4, 1}, {5, 5, most}, {6, 6, 7}, {960, 1023, most - 1}}
	if l := b.hist.Rows(); !slices.Equal(l, want) || b.hist.Count() != most {
		t.Error(l, b.hist.Count())
	}
}

// 38.2: Rows where nothing was counted.
func TestNoRows(t *testing.T) {
	for fine := range 9 {
		b := newBoth(t, fine)
		for range 3 {
			if l := b.hist.Rows(); len(l) != 0 {
				t.Error(fine, l)
			}
		}
	}
}

// 38.2: increasing order, whatever the order of the Adds is.
func TestRowsOrder(t *testing.T) {
	numbers := []uint64{0, 3, 70, 1 << 20, most}
	var want []Row
	for _, n := range numbers {
		low, high, _ := rangeOf(2, bucketOf(2, n))
		want = append(want, Row{low, high, n/2 + 1})
	}
	var all func(order []uint64)
	all = func(order []uint64) {
		for _, n := range numbers {
			if !slices.Contains(order, n) {
				all(append(slices.Clone(order), n))
			}
		}
		if len(order) < len(numbers) {
			return
		}
		h := newBoth(t, 2).hist
		for _, n := range order {
			h.Add(n, n/2+1)
		}
		if l := h.Rows(); !slices.Equal(l, want) {
			t.Fatalf("of %v, Rows is %v, not %v", order, l, want)
		}
	}
	all(nil)
}

// 38.2: every bucket that there is, added to from the last one to the first
// one, from the first one on, and mixed.
func TestAllBuckets(t *testing.T) {
	next := random(2)
	for fine := range 9 {
		n := lastOf(fine) + 1
		order := make([]int, n)
		var want []Row
		for bucket := range order {
			order[bucket] = bucket
			low, high, _ := rangeOf(fine, bucket)
			want = append(want, Row{low, high, uint64(bucket) + 1})
		}
		mixed := slices.Clone(order)
		for i := range mixed {
			j := next(uint64(i + 1))
			mixed[i], mixed[j] = mixed[j], mixed[i]
		}
		backward := slices.Clone(order)
		slices.Reverse(backward)
		for _, l := range [][]int{order, backward, mixed} {
			h := newBoth(t, fine).hist
			for _, bucket := range l {
				// Every second bucket by its least number, the others by the greatest.
				number := want[bucket].Low
				if bucket%2 == 1 {
					number = want[bucket].High
				}
				h.Add(number, uint64(bucket)+1)
			}
			if !slices.Equal(h.Rows(), want) || h.Count() != uint64(n)*uint64(n+1)/2 {
				t.Fatal(fine, h.Count())
			}
		}
	}
}

// 38.3: parts worked out by hand.
func TestPart(t *testing.T) {
	b := newBoth(t, 2, pair{9, 3}, pair{8, 1}, pair{1, 2}, pair{100, 4})
	one, eight, hundred := Row{1, 1, 2}, Row{8, 9, 4}, Row{96, 111, 4}
	for _, test := range []struct {
		num, den uint64
		row      Row
		ok       bool
	}{
		{0, 1, one, true},
		{0, 10, one, true},
		{0, most, one, true},
		{1, 10, one, true},
		{1, 100, one, true},
		{1, most, one, true},
		{2, 10, one, true},
		{1, 5, one, true},
		{21, 100, eight, true},
		{3, 10, eight, true},
		{1, 2, eight, true},
		{6, 10, eight, true},
		{6000000001, 10000000000, hundred, true},
		{61, 100, hundred, true},
		{7, 10, hundred, true},
		{9, 10, hundred, true},
		{999, 1000, hundred, true},
		{1, 1, hundred, true},
		{10, 10, hundred, true},
		{most, most, hundred, true},
		{most - 1, most, hundred, true},
		{0, 0, Row{}, false},
		{1, 0, Row{}, false},
		{most, 0, Row{}, false},
		{2, 1, Row{}, false},
		{11, 10, Row{}, false},
		{most, most - 1, Row{}, false},
		{most, 1, Row{}, false},
	} {
		if r, ok := b.hist.Part(test.num, test.den); r != test.row || ok != test.ok {
			t.Errorf("Part(%d, %d) is %v, %v, not %v, %v", test.num, test.den, r, ok, test.row, test.ok)
		}
		b.checkPart(test.num, test.den)
	}
}

// 38.3: nothing is counted.
func TestPartOfNothing(t *testing.T) {
	for fine := range 9 {
		b := newBoth(t, fine)
		for _, num := range []uint64{0, 1, 2, most} {
			for _, den := range []uint64{0, 1, 2, most} {
				b.checkPart(num, den)
				if r, ok := b.hist.Part(num, den); r != (Row{}) || ok {
					t.Error(fine, num, den, r, ok)
				}
			}
		}
	}
}

// 38.3: each of the numbers, by the part that ends with it, and by one that is
// a little less or more.
func TestPartOfEach(t *testing.T) {
	for _, count := range []uint64{1, 2, 3, 5, 8} {
		b := newBoth(t, 4)
		for n := range count {
			b.add(n, 1)
		}
		for n := range count {
			for _, by := range []uint64{1, 2, 1000, most / 8} {
				num, den := (n+1)*by, count*by
				if r, ok := b.hist.Part(num, den); r != (Row{n, n, 1}) || !ok {
					t.Errorf("of %d numbers, Part(%d, %d) is %v, %v", count, num, den, r, ok)
				}
				for _, num := range []uint64{num - 1, num + 1} {
					b.checkPart(num, den)
				}
			}
		}
	}
}

// 38.3: all small counts and parts, by the definition.
func TestPartsOfFew(t *testing.T) {
	for counts := range uint64(64) {
		b := newBoth(t, 1)
		for i, n := range []uint64{700, 0, 5} {
			b.add(n, counts>>(2*i)&3)
		}
		for den := range uint64(12) {
			for num := range den + 2 {
				b.checkPart(num, den)
			}
		}
	}
}

// 38.3: products that are greater than the greatest number, and counts at the
// cap.
func TestPartOfMany(t *testing.T) {
	sides := []uint64{0, 1, 2, 3, 1<<32 - 1, 1 << 32, 1<<32 + 1, 1<<63 - 1, 1 << 63, 1<<63 + 1, most - 2, most - 1, most}
	for _, first := range sides {
		for _, second := range sides {
			b := newBoth(t, 8, pair{5, first}, pair{600, second}, pair{most, 1})
			for _, num := range sides {
				for _, den := range sides {
					b.checkPart(num, den)
				}
			}
		}
	}
}

// 38.3: of counts at the cap, only as many numbers as there may be are counted.
func TestPartOfCapped(t *testing.T) {
	b := newBoth(t, 0, pair{0, most - 1}, pair{1, most}, pair{2, most})
	for _, test := range []struct{ num, den, low uint64 }{
		{0, 1, 0}, {1, 2, 0}, {most - 1, most, 0}, {most, most, 1}, {1, 1, 1}, {most - 2, most - 1, 0}, {1 << 63, 1<<63 + 1, 0},
	} {
		if r, ok := b.hist.Part(test.num, test.den); r.Low != test.low || !ok {
			t.Errorf("Part(%d, %d) is %v, %v", test.num, test.den, r, ok)
		}
		b.checkPart(test.num, test.den)
	}
	b = newBoth(t, 0, pair{0, most}, pair{1, most})
	for _, num := range []uint64{0, 1, most - 1, most} {
		if r, ok := b.hist.Part(num, most); r != (Row{0, 0, most}) || !ok {
			t.Error(num, r, ok)
		}
	}
}

// 38.3: Part changes nothing.
func TestPartTwice(t *testing.T) {
	b := newBoth(t, 3, pair{4, 5}, pair{40, 5}, pair{400, 5})
	for range 3 {
		for num := range uint64(18) {
			b.checkPart(num, 16)
			b.check()
		}
	}
}

// 38.3
func TestMerge(t *testing.T) {
	b := newBoth(t, 2, pair{9, 3}, pair{1, 2}, pair{0, 1})
	o := newBoth(t, 2, pair{8, 4}, pair{1, 1}, pair{100, 5}, pair{most, 1})
	b.merge(o)
	want := []Row{{0, 0, 1}, {1, 1, 3}, {8, 9, 7}, {96, 111, 5}, {7 << 61, most, 1}}
	if l := b.hist.Rows(); !slices.Equal(l, want) || b.hist.Count() != 17 {
		t.Error(l)
	}
	// Both have stores of their own.
	b.add(100, 7)
	o.add(1, 9)
	o.add(50, 1)
	b.check()
	o.check()
	b.merge(o)
	o.merge(b)
}

// 38.3: histograms without counts.
func TestMergeNothing(t *testing.T) {
	for fine := range 9 {
		b, o := newBoth(t, fine), newBoth(t, fine)
		b.merge(o)
		b.merge(b)
		o.add(700, 3)
		b.merge(newBoth(t, fine))
		b.merge(o)
		o.merge(newBoth(t, fine))
		if !slices.Equal(b.hist.Rows(), o.hist.Rows()) || b.hist.Count() != 3 {
			t.Error(fine, b.hist.Rows())
		}
	}
}

// 38.3: another number of fine bits changes nothing, whatever is counted.
func TestMergeOtherFine(t *testing.T) {
	for fine := range 9 {
		for other := range 9 {
			if fine == other {
				continue
			}
			for _, pairs := range [][]pair{nil, {{0, 1}}, {{0, 1}, {700, 5}, {most, most}}} {
				b := newBoth(t, fine, pair{1, 2}, pair{900, 3})
				o := newBoth(t, other, pairs...)
				if err := b.hist.Merge(o.hist); err != api.ErrArg {
					t.Errorf("Merge of %d fine bits into %d is %d", other, fine, err)
				}
				b.check()
				o.check()
			}
		}
	}
}

// 38.3: what New did not make changes nothing.
func TestMergeNotMade(t *testing.T) {
	for fine := range 9 {
		b := newBoth(t, fine, pair{1, 2}, pair{900, 3})
		for _, o := range []*Hist{nil, {}, new(Hist)} {
			if err := b.hist.Merge(o); err != api.ErrNil {
				t.Error(fine, err)
			}
			b.check()
		}
	}
}

// 38.3: a histogram merged with itself has every count twice.
func TestMergeItself(t *testing.T) {
	for fine := range 9 {
		b := newBoth(t, fine, pair{0, 1}, pair{1, 2}, pair{900, 3}, pair{1 << 40, 1<<63 - 1}, pair{most, 1 << 63}, pair{5, most})
		rows := b.hist.Rows()
		b.pairs = append(b.pairs, b.pairs...)
		if err := b.hist.Merge(b.hist); err != api.OK {
			t.Fatal(err)
		}
		b.check()
		for i, r := range b.hist.Rows() {
			want := rows[i].Count * 2
			if rows[i].Count >= 1<<63 {
				want = most
			}
			if r != (Row{rows[i].Low, rows[i].High, want}) {
				t.Error(fine, r, rows[i])
			}
		}
	}
	// Every bucket, so that a store that grows would be seen.
	h := newBoth(t, 8).hist
	for bucket := range lastOf(8) + 1 {
		low, _, _ := h.Range(bucket)
		h.Add(low, uint64(bucket)+1)
	}
	for n := range 3 {
		for bucket, r := range h.Rows() {
			if r.Count != (uint64(bucket)+1)<<n {
				t.Fatal(n, bucket, r)
			}
		}
		if err := h.Merge(h); err != api.OK {
			t.Fatal(err)
		}
	}
}

// 38.3: counts that reach the cap.
func TestMergeCapped(t *testing.T) {
	sides := []uint64{0, 1, 2, 1<<63 - 1, 1 << 63, most - 1, most}
	for _, x := range sides {
		for _, y := range sides {
			b := newBoth(t, 3, pair{70, x}, pair{5, 1})
			o := newBoth(t, 3, pair{71, y}, pair{6, 1})
			b.merge(o)
			b.merge(o)
		}
	}
}

// 38.5: merging gives the same as adding everything to one histogram.
func TestMergeIsAdding(t *testing.T) {
	next := random(3)
	for i := range 400 {
		fine := i % 9
		one := newBoth(t, fine)
		var parts []*both
		for range 2 + next(4) {
			parts = append(parts, newBoth(t, fine))
		}
		for range next(40) {
			n, times := anyNumber(next)>>next(60), anyNumber(next)
			one.hist.Add(n, times)
			parts[next(uint64(len(parts)))].hist.Add(n, times)
		}
		// Into the first one, in order, and into another one from the end on.
		other := newBoth(t, fine)
		for j := len(parts) - 1; j >= 0; j-- {
			other.hist.Merge(parts[j].hist)
		}
		for _, p := range parts[1:] {
			parts[0].hist.Merge(p.hist)
		}
		for _, b := range []*both{parts[0], other} {
			if !slices.Equal(b.hist.Rows(), one.hist.Rows()) || b.hist.Count() != one.hist.Count() {
				t.Fatalf("merged, Rows is %v, not %v", b.hist.Rows(), one.hist.Rows())
			}
			num, den := anyNumber(next), anyNumber(next)
			r, ok := b.hist.Part(num, den)
			if s, is := one.hist.Part(num, den); r != s || ok != is {
				t.Fatalf("merged, Part is %v, %v, not %v, %v", r, ok, s, is)
			}
		}
	}
}

// 38.1, 38.2 and 38.3: all rows of three steps, by the definitions.
func TestShortRows(t *testing.T) {
	numbers := []uint64{0, 1, 2, 3, 4, 6, most}
	times := []uint64{0, 1, most - 1}
	steps := len(numbers)*len(times) + 1
	for _, fine := range []int{0, 1, 2} {
		for row := range steps * steps * steps {
			b := newBoth(t, fine)
			for range 3 {
				step := row % steps
				row /= steps
				if step == steps-1 {
					b.merge(b)
					continue
				}
				b.add(numbers[step%len(numbers)], times[step/len(numbers)])
			}
			b.check()
			b.checkPart(1, 2)
			b.checkPart(2, 3)
			b.checkPart(1, 1)
		}
	}
}

// 38.1, 38.2 and 38.3: long rows of steps on several histograms.
func TestLongRows(t *testing.T) {
	next := random(4)
	for i := range 60 {
		fine := i % 9
		l := []*both{newBoth(t, fine), newBoth(t, fine), newBoth(t, (fine+1)%9)}
		for range 150 {
			b, o := l[next(3)], l[next(3)]
			switch next(8) {
			case 0:
				if len(b.pairs) > 300 {
					break
				}
				if b.fine == o.fine {
					b.merge(o)
				} else if err := b.hist.Merge(o.hist); err != api.ErrArg {
					t.Fatal(err)
				}
			case 1, 2:
				den := anyNumber(next)
				b.checkPart(next(den%1000+1), den%1000)
				b.checkPart(anyNumber(next), den)
				b.checkPart(den/3, den)
			case 3:
				b.add(anyNumber(next), anyNumber(next))
			default:
				b.add(anyNumber(next)>>next(64), next(20))
			}
			if next(10) == 0 {
				b.check()
			}
		}
		for _, b := range l {
			b.check()
		}
	}
}

// 38.2: many numbers, with the counts of an array.
func TestManyNumbers(t *testing.T) {
	next := random(5)
	for fine := range 9 {
		h := newBoth(t, fine).hist
		counts := make([]uint64, lastOf(fine)+1)
		for range 100000 {
			n, times := anyNumber(next), next(5)
			h.Add(n, times)
			counts[bucketOf(fine, n)] += times
		}
		var want []Row
		var sum uint64
		for bucket, count := range counts {
			if low, high, _ := rangeOf(fine, bucket); count > 0 {
				want = append(want, Row{low, high, count})
				sum += count
			}
		}
		if !slices.Equal(h.Rows(), want) || h.Count() != sum {
			t.Fatal(fine, h.Count(), sum)
		}
		// The quantiles in hundredths, by going on from one to the next.
		i, done := 0, uint64(0)
		for num := range uint64(101) {
			k := max((sum*num+99)/100, 1)
			for done+want[i].Count < k {
				done += want[i].Count
				i++
			}
			if r, ok := h.Part(num, 100); r != want[i] || !ok {
				t.Fatal(fine, num, r, ok, want[i])
			}
		}
	}
}

// P1 and 38.3: histograms that New did not make, and nil ones.
func TestNotMade(t *testing.T) {
	made := newBoth(t, 0, pair{1, 1})
	for _, h := range []*Hist{nil, {}, new(Hist)} {
		for range 2 {
			for _, n := range []uint64{0, 1, 5, 1 << 63, most} {
				h.Add(n, 1)
				h.Add(n, most)
				if b := h.Bucket(n); b != 0 {
					t.Error(n, b)
				}
			}
			for _, bucket := range []int{math.MinInt, -1, 0, 1, 64, 251, math.MaxInt} {
				if low, high, ok := h.Range(bucket); low != 0 || high != 0 || ok {
					t.Error(bucket, low, high, ok)
				}
			}
			if n, l := h.Count(), h.Rows(); n != 0 || len(l) != 0 {
				t.Error(n, l)
			}
			for _, num := range []uint64{0, 1, most} {
				for _, den := range []uint64{0, 1, most} {
					if r, ok := h.Part(num, den); r != (Row{}) || ok {
						t.Error(num, den, r, ok)
					}
				}
			}
			for _, o := range []*Hist{nil, {}, h, made.hist, newBoth(t, 8).hist} {
				if err := h.Merge(o); err != api.ErrNil {
					t.Error(err)
				}
			}
			made.check()
		}
	}
}

// P2: a result depends only on what was added to the histogram itself.
func TestTwoHists(t *testing.T) {
	next := random(6)
	a, b := newBoth(t, 4), newBoth(t, 4)
	for range 300 {
		one := a
		if next(2) == 0 {
			one = b
		}
		one.add(next(1000), next(3))
		a.check()
		b.check()
	}
	// The same steps give the same results, though keys come in another order
	// each time that a map is gone through.
	want := a.hist.Rows()
	for range 50 {
		again := newBoth(t, 4, a.pairs...)
		if !slices.Equal(again.hist.Rows(), want) {
			t.Fatal(again.hist.Rows())
		}
		for num := range uint64(20) {
			again.checkPart(num, 19)
		}
	}
}

// Ownership: each result is new memory.
func TestOwnership(t *testing.T) {
	b := newBoth(t, 2, pair{9, 3}, pair{1, 2}, pair{100, 4})
	l, again := b.hist.Rows(), b.hist.Rows()
	for i := range l {
		l[i] = Row{7, 7, 7}
	}
	l = append(l[:1], Row{8, 8, 8})
	if !slices.Equal(again, b.rows()) {
		t.Error(l, again)
	}
	b.check()
	b.add(50, 1)
	if len(again) != 3 {
		t.Error(again)
	}
}
