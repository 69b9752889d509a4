package invert

import (
	"cmp"
	"math"
	"slices"
	"testing"

	"pacemaker/api"
)

// late does what Late should, by a plain count over all pairs.
func late(l []uint64) []int {
	n := make([]int, len(l))
	for k := range l {
		for i := range k {
			if l[i] > l[k] {
				n[k]++
			}
		}
	}
	return n
}

// total returns the sum of all numbers.
func total(l []int) uint64 {
	var sum uint64
	for _, n := range l {
		sum += uint64(n)
	}
	return sum
}

// order does what Order should, by a sort that is stable.
func order(l []uint64) []int {
	indexes := make([]int, len(l))
	for i := range indexes {
		indexes[i] = i
	}
	slices.SortStableFunc(indexes, func(i, k int) int { return cmp.Compare(l[i], l[k]) })
	return indexes
}

// longest does what Longest should, by asking at each index for the longest
// subsequence that ends there.
func longest(l []uint64) int {
	most := 0
	ends := make([]int, len(l))
	for k := range l {
		for i := range k {
			if l[i] <= l[k] {
				ends[k] = max(ends[k], ends[i])
			}
		}
		ends[k]++
		most = max(most, ends[k])
	}
	return most
}

// answers are what the functions should return for a sequence.
type answers struct {
	count   uint64
	order   []int
	late    []int
	longest int
}

// of returns the answers for a sequence by the plain ways.
func of(l []uint64) answers {
	n := late(l)
	return answers{total(n), order(l), n, longest(l)}
}

// few returns l if it is short enough to be shown.
func few(l []uint64) []uint64 {
	return l[:min(20, len(l))]
}

// checkIs tells whether the functions return what they should, twice, and leave
// the sequence as it is.
func checkIs(t *testing.T, l []uint64, want answers) {
	t.Helper()
	kept := slices.Clone(l)
	for range 2 {
		if got := Count(l); got != want.count {
			t.Errorf("Count of %d numbers %v is %d, not %d", len(l), few(l), got, want.count)
		}
		if got := Order(l); !slices.Equal(got, want.order) {
			t.Errorf("Order of %d numbers %v is %v, not %v", len(l), few(l), got, want.order)
		}
		if got := Late(l); !slices.Equal(got, want.late) {
			t.Errorf("Late of %d numbers %v is %v, not %v", len(l), few(l), got, want.late)
		}
		if got := Longest(l); got != want.longest {
			t.Errorf("Longest of %d numbers %v is %d, not %d", len(l), few(l), got, want.longest)
		}
		if !slices.Equal(l, kept) {
			t.Fatalf("%v became %v", few(kept), few(l))
		}
	}
}

// checkSequence tells whether the functions return the same as the plain ways,
// and whether the consequences hold.
func checkSequence(t *testing.T, l []uint64) {
	t.Helper()
	checkIs(t, l, of(l))
	n := Count(l)
	// 14.3
	if sum := total(Late(l)); sum != n {
		t.Errorf("Late of %v has the sum %d, but Count is %d", few(l), sum, n)
	}
	if (n == 0) != slices.IsSorted(l) || (n == 0) != (Longest(l) == len(l)) {
		t.Errorf("Count of %v is %d", few(l), n)
	}
}

// checkExchanges tells whether an exchange of two neighbours changes the count
// by one, or not at all if they are alike (14.4).
func checkExchanges(t *testing.T, l []uint64, every int) {
	t.Helper()
	l = slices.Clone(l)
	before := Count(l)
	for i := 0; i+1 < len(l); i += every {
		want := before
		switch cmp.Compare(l[i], l[i+1]) {
		case -1:
			want++
		case 1:
			want--
		}
		l[i], l[i+1] = l[i+1], l[i]
		if got := Count(l); got != want {
			t.Errorf("Count is %d after an exchange at %d, not %d: %v", got, i, want, few(l))
		}
		l[i], l[i+1] = l[i+1], l[i]
	}
}

// 14.1, 14.2, the chapter's example.
func TestExample(t *testing.T) {
	checkIs(t, []uint64{5, 3, 3, 9, 4}, answers{4, []int{1, 2, 4, 0, 3}, []int{0, 1, 1, 0, 2}, 3})
}

// 14.1, 14.2: answers worked out by hand.
func TestByHand(t *testing.T) {
	const most = api.MaxU64
	tests := []struct {
		l    []uint64
		want answers
	}{
		{nil, answers{0, nil, nil, 0}},
		{[]uint64{}, answers{0, nil, nil, 0}},
		{[]uint64{0}, answers{0, []int{0}, []int{0}, 1}},
		{[]uint64{most}, answers{0, []int{0}, []int{0}, 1}},
		{[]uint64{1, 2}, answers{0, []int{0, 1}, []int{0, 0}, 2}},
		{[]uint64{2, 1}, answers{1, []int{1, 0}, []int{0, 1}, 1}},
		{[]uint64{2, 2}, answers{0, []int{0, 1}, []int{0, 0}, 2}},
		{[]uint64{0, most}, answers{0, []int{0, 1}, []int{0, 0}, 2}},
		{[]uint64{most, 0}, answers{1, []int{1, 0}, []int{0, 1}, 1}},
		{[]uint64{1 << 63, 1<<63 - 1}, answers{1, []int{1, 0}, []int{0, 1}, 1}},
		{[]uint64{1 << 32, 1<<32 - 1, 1}, answers{3, []int{2, 1, 0}, []int{0, 1, 2}, 1}},
		{[]uint64{4, 4, 4}, answers{0, []int{0, 1, 2}, []int{0, 0, 0}, 3}},
		{[]uint64{4, 4, 3, 4}, answers{2, []int{2, 0, 1, 3}, []int{0, 0, 2, 0}, 3}},
		{[]uint64{3, 1, 2}, answers{2, []int{1, 2, 0}, []int{0, 1, 1}, 2}},
		{[]uint64{2, 3, 1}, answers{2, []int{2, 0, 1}, []int{0, 0, 2}, 2}},
		{[]uint64{4, 3, 2, 1}, answers{6, []int{3, 2, 1, 0}, []int{0, 1, 2, 3}, 1}},
		{[]uint64{2, 1, 2, 1, 2, 1}, answers{6, []int{1, 3, 5, 0, 2, 4}, []int{0, 1, 0, 2, 0, 3}, 3}},
		{[]uint64{most, 0, most, 0, most}, answers{3, []int{1, 3, 0, 2, 4}, []int{0, 1, 0, 2, 0}, 3}},
		{[]uint64{3, 1, 4, 1, 5, 9, 2, 6}, answers{8, []int{1, 3, 6, 0, 2, 4, 7, 5}, []int{0, 1, 0, 2, 0, 0, 4, 1}, 4}},
	}
	for _, test := range tests {
		checkIs(t, test.l, test.want)
		checkSequence(t, test.l)
		checkExchanges(t, test.l, 1)
	}
}

// 14.1: indexes of equal numbers are in order.
func TestStableOrder(t *testing.T) {
	for n := range 70 {
		for _, kinds := range []int{1, 2, 3, 5} {
			l := make([]uint64, n)
			for i := range l {
				l[i] = uint64(i * i % 7 % kinds)
			}
			got := Order(l)
			for k := 1; k < len(got); k++ {
				i, j := got[k-1], got[k]
				if l[i] > l[j] || l[i] == l[j] && i >= j {
					t.Errorf("Order of %v is %v", few(l), got)
				}
			}
		}
	}
}

// 14.2: equal numbers don't decrease.
func TestLongestOfEqualNumbers(t *testing.T) {
	tests := []struct {
		l    []uint64
		want int
	}{
		{[]uint64{7, 7}, 2},
		{[]uint64{0, 0, 0, 0, 0}, 5},
		{[]uint64{api.MaxU64, api.MaxU64, api.MaxU64}, 3},
		{[]uint64{5, 5, 9, 5}, 3},
		{[]uint64{5, 9, 5, 9, 5}, 3},
		{[]uint64{9, 9, 1, 9, 9}, 4},
		{[]uint64{9, 9, 1, 1, 1}, 3},
		{[]uint64{3, 3, 2, 2, 1, 1}, 2},
		{[]uint64{1, 1, 2, 2, 3, 3}, 6},
		{[]uint64{2, 2, 1, 2, 1, 2, 1}, 4},
		{[]uint64{1, 3, 2, 3, 2, 2}, 4},
	}
	for _, test := range tests {
		if got := Longest(test.l); got != test.want {
			t.Errorf("Longest of %v is %d, not %d", test.l, got, test.want)
		}
	}
}

// rules are the numbers of sequences of n: they rise, fall, go both ways, or
// are equal, some or all of them.
func rules() map[string]func(i, n int) uint64 {
	return map[string]func(i, n int) uint64{
		"rise":         func(i, n int) uint64 { return uint64(i) },
		"fall":         func(i, n int) uint64 { return uint64(n - i) },
		"up and down":  func(i, n int) uint64 { return uint64(min(i, n-i)) },
		"down and up":  func(i, n int) uint64 { return uint64(max(i, n-i)) },
		"by turns":     func(i, n int) uint64 { return uint64(i % 2 * n) },
		"two that mix": func(i, n int) uint64 { return uint64(i%2*n + (1-i%2)*i) },
		"pairs rise":   func(i, n int) uint64 { return uint64(i / 2) },
		"pairs fall":   func(i, n int) uint64 { return uint64((n - i) / 2) },
		"equal":        func(i, n int) uint64 { return 7 },
		"one is less":  func(i, n int) uint64 { return uint64(min(1, max(i-n/2, n/2-i))) },
		"one is more":  func(i, n int) uint64 { return uint64(n - max(i-n/2, n/2-i, 1)) },
		"first last":   func(i, n int) uint64 { return uint64((i + n - 1) % max(n, 1)) },
		"last first":   func(i, n int) uint64 { return uint64((i + 1) % max(n, 1)) },
		"a few, often": func(i, n int) uint64 { return uint64(i * i % 5) },
		"a prime":      func(i, n int) uint64 { return uint64(i * 57 % 1021) },
		"ends":         func(i, n int) uint64 { return -uint64(i * i % 3 % 2) },
		"all bits":     func(i, n int) uint64 { return uint64(i+1) * 0x9E3779B97F4A7C15 },
	}
}

// sequence returns n numbers by a rule.
func sequence(n int, rule func(i, n int) uint64) []uint64 {
	l := make([]uint64, n)
	for i := range l {
		l[i] = rule(i, n)
	}
	return l
}

// 14.1 to 14.4, of even and odd counts, against the plain ways.
func TestRules(t *testing.T) {
	for name, rule := range rules() {
		t.Run(name, func(t *testing.T) {
			for n := range 35 {
				checkSequence(t, sequence(n, rule))
				checkExchanges(t, sequence(n, rule), 1)
			}
			for _, n := range []int{63, 64, 65, 127, 128, 129, 1000, 1001, 2047, 2048, 2049} {
				checkSequence(t, sequence(n, rule))
				checkExchanges(t, sequence(n, rule), 1+n/20)
			}
		})
	}
}

// 14.1 to 14.4: all sequences of few numbers.
func TestAllSequences(t *testing.T) {
	for _, numbers := range [][4]uint64{{0, 1, 2, 3}, {api.MaxU64, 0, 1 << 63, 1}} {
		for n := range 7 {
			l := make([]uint64, n)
			for k := range int(math.Pow(4, float64(n))) {
				for i := range l {
					l[i] = numbers[k>>(2*i)&3]
				}
				checkSequence(t, l)
				checkExchanges(t, l, 1)
			}
		}
	}
}

// 14.1, 14.2: all orders of different numbers, each as often as it should be.
// Of the orders of 5 numbers, 1, 4, 9, 15, 20, 22, 20, 15, 9, 4 and 1 have 0 to
// 10 inversions.
func TestPermutations(t *testing.T) {
	counts := make([]int, 11)
	var place func(l []uint64, left []uint64)
	place = func(l []uint64, left []uint64) {
		if len(left) == 0 {
			counts[Count(l)]++
			checkSequence(t, l)
		}
		for i, n := range left {
			place(append(slices.Clone(l), n), slices.Delete(slices.Clone(left), i, i+1))
		}
	}
	place(nil, []uint64{0, 1, 2, 3, api.MaxU64})
	if !slices.Equal(counts, []int{1, 4, 9, 15, 20, 22, 20, 15, 9, 4, 1}) {
		t.Errorf("there are %v with 0 and more inversions", counts)
	}
}

// 14.1, 14.2, of long sequences with numbers without a rule.
func TestMany(t *testing.T) {
	seed := uint64(1)
	for _, n := range []int{10, 99, 500, 3000, 3001} {
		for _, ranks := range []uint64{1, 2, 10, 1000, api.MaxU64} {
			l := make([]uint64, n)
			for i := range l {
				seed = seed*6364136223846793005 + 1442695040888963407
				l[i] = (seed>>32 ^ seed<<32) % ranks
			}
			checkSequence(t, l)
			checkExchanges(t, l, 1+n/10)
		}
	}
}

// 14.1, 14.2: sequences too long for a plain count have answers that follow
// from their rule. More pairs are inverted than 32 bits can count.
func TestVeryLong(t *testing.T) {
	const n = 300_000
	falls := answers{n * (n - 1) / 2, make([]int, n), make([]int, n), 1}
	rises := answers{0, make([]int, n), make([]int, n), n}
	// The first half is above the second one, and both rise.
	halves := answers{n / 2 * (n / 2), make([]int, n), make([]int, n), n / 2}
	for i := range n {
		falls.order[i], falls.late[i] = n-1-i, i
		rises.order[i] = i
		halves.order[i] = (i + n/2) % n
		if i >= n/2 {
			halves.late[i] = n / 2
		}
	}
	check := func(want answers, rule func(i, n int) uint64) {
		t.Helper()
		l := sequence(n, rule)
		if Count(l) != want.count || !slices.Equal(Order(l), want.order) ||
			!slices.Equal(Late(l), want.late) || Longest(l) != want.longest {
			t.Errorf("Count is %d, not %d; Longest is %d, not %d", Count(l), want.count, Longest(l), want.longest)
		}
	}
	check(falls, func(i, n int) uint64 { return uint64(n - i) })
	check(rises, func(i, n int) uint64 { return uint64(i) })
	check(rises, func(i, n int) uint64 { return 7 })
	check(halves, func(i, n int) uint64 { return uint64((i + n/2) % n) })
}

// 14.4, by hand: the chapter's sequence with two neighbours exchanged.
func TestExchange(t *testing.T) {
	tests := []struct {
		l    []uint64
		want uint64
	}{
		{[]uint64{5, 3, 3, 9, 4}, 4},
		{[]uint64{3, 5, 3, 9, 4}, 3},
		{[]uint64{5, 3, 9, 3, 4}, 5},
		{[]uint64{5, 3, 3, 4, 9}, 3},
		{[]uint64{0, api.MaxU64}, 0},
		{[]uint64{api.MaxU64, 0}, 1},
	}
	for _, test := range tests {
		if got := Count(test.l); got != test.want {
			t.Errorf("Count of %v is %d, not %d", test.l, got, test.want)
		}
	}
}

// Ownership: results share nothing with each other, with the sequence, or with
// what a call returns later.
func TestOwnership(t *testing.T) {
	l := []uint64{5, 3, 3, 9, 4}
	want := of(l)
	for range 2 {
		o, n := Order(l), Late(l)
		for i := range l {
			o[i], n[i] = -1, -2
		}
		_, _ = append(o, 7), append(n, 8)
		checkIs(t, l, want)
	}
	o, n := Order(l), Late(l)
	// Only a part of a longer sequence is looked at, and nothing is written.
	long := append(slices.Clone(l), 0, 0, 0)
	checkIs(t, long[:len(l)], want)
	clear(l)
	Order([]uint64{1, 0, 1, 0, 1})
	if !slices.Equal(o, want.order) || !slices.Equal(n, want.late) {
		t.Errorf("Order became %v, Late %v", o, n)
	}
	if !slices.Equal(long, []uint64{5, 3, 3, 9, 4, 0, 0, 0}) {
		t.Errorf("behind the sequence there is %v", long)
	}
}
