package root

import (
	"math"
	"math/big"
	"slices"
	"testing"

	"pacemaker/api"
	"pacemaker/sat"
)

const most = api.MaxU64

// numbers gives those where a bit more or less matters, and others of all
// lengths, the same ones in every run.
func numbers() []uint64 {
	l := []uint64{0, 3, 5, 6, 7, 10, 99, 100, 101, most / 3, most - 2, most - 1, most}
	for i := range 64 {
		l = append(l, 1<<i, 1<<i-1, 1<<i+1)
	}
	x := uint64(1)
	for i := range 500 {
		x = x*6364136223846793005 + 1442695040888963407
		l = append(l, (x^x>>29)>>(i%64))
	}
	slices.Sort(l)
	return slices.Compact(l)
}

func slows() []int {
	return []int{math.MinInt, -17, -1, 0, 1, 2, 5, 15, 16, 17, 63, 64, 65, 99, math.MaxInt}
}

func check(t *testing.T, what string, got, want uint64, args ...uint64) {
	t.Helper()
	if got != want {
		t.Errorf("%s%v is %d, not %d", what, args, got, want)
	}
}

func big64(x uint64) *big.Int { return new(big.Int).SetUint64(x) }

func bigMul(a, b uint64) *big.Int { return new(big.Int).Mul(big64(a), big64(b)) }

// 2.1
func TestSqrt(t *testing.T) {
	for i, want := range []uint64{0, 1, 1, 1, 2, 2, 2, 2, 2, 3, 3} {
		check(t, "Sqrt", Sqrt(uint64(i)), want, uint64(i))
	}
	check(t, "Sqrt", Sqrt(99), 9)
	check(t, "Sqrt", Sqrt(100), 10)
	check(t, "Sqrt", Sqrt(most), 1<<32-1)
	check(t, "Sqrt", Sqrt(1<<62), 1<<31)
	check(t, "Sqrt", Sqrt(1<<62-1), 1<<31-1)
	check(t, "Sqrt", Sqrt((1<<32-1)*(1<<32-1)), 1<<32-1)
	check(t, "Sqrt", Sqrt((1<<32-1)*(1<<32-1)-1), 1<<32-2)
	for _, n := range numbers() {
		check(t, "Sqrt", Sqrt(n), new(big.Int).Sqrt(big64(n)).Uint64(), n)
	}
}

// 2.1, at squares and beside them.
func TestSqrtOfSquares(t *testing.T) {
	for _, k := range numbers() {
		if k == 0 || k >= 1<<32 {
			continue
		}
		check(t, "Sqrt", Sqrt(k*k-1), k-1, k*k-1)
		check(t, "Sqrt", Sqrt(k*k), k, k*k)
		check(t, "Sqrt", Sqrt(k*k+1), k, k*k+1)
	}
}

// 2.1
func TestLog(t *testing.T) {
	if Log(0) != -1 || Log(1) != 0 || Log(8) != 3 || Log(most) != 63 {
		t.Error("Log")
	}
	for k := range 64 {
		least := uint64(1) << k
		greatest := least | (least - 1)
		for _, n := range []uint64{least, least + least/3, greatest} {
			if got := Log(n); got != k {
				t.Errorf("Log(%d) is %d, not %d", n, got, k)
			}
		}
	}
	for _, n := range numbers() {
		if got := Log(n); got != big64(n).BitLen()-1 {
			t.Errorf("Log(%d) is %d", n, got)
		}
	}
}

// 2.2
func TestPart(t *testing.T) {
	for _, x := range [][3]uint64{
		{100, 4, 50}, {100, 2, 70}, {100, 1, 100}, {100, 0, 100}, {100, 3, 57},
		{100, 9999, 1}, {100, 10000, 1}, {100, 10001, 0}, {100, most, 0},
		{0, 0, 0}, {0, 1, 0}, {0, most, 0}, {1, 1, 1}, {1, 2, 0},
		{MaxBase, 0, MaxBase}, {MaxBase, 1, MaxBase}, {MaxBase, 4, MaxBase / 2},
		{MaxBase - 1, 0, MaxBase - 1}, {MaxBase - 1, 1, MaxBase - 1},
		{MaxBase + 1, 0, MaxBase}, {MaxBase + 1, 1, MaxBase}, {most, 0, MaxBase}, {most, 4, MaxBase / 2},
		{1 << 32, 1, MaxBase}, {1 << 40, 1, MaxBase},
		{MaxBase, 1 << 62, 1}, {MaxBase, 1<<62 + 1, 0}, {MaxBase, most, 0}, {most, most, 0},
	} {
		check(t, "Part", Part(x[0], x[1]), x[2], x[0], x[1])
	}
	if MaxBase != 1<<31 || MaxSlow != 16 {
		t.Error("limits")
	}
}

// 2.2
func TestPartIsTheGreatest(t *testing.T) {
	l := numbers()
	for i, base := range l {
		for j := range 40 {
			count := l[(i+j*17)%len(l)]
			if count == 0 {
				continue
			}
			counted := min(base, 1<<31)
			square := bigMul(counted, counted)
			times := func(k uint64) *big.Int { return new(big.Int).Mul(bigMul(k, k), big64(count)) }
			got := Part(base, count)
			if times(got).Cmp(square) > 0 || times(got+1).Cmp(square) <= 0 {
				t.Errorf("Part(%d, %d) is %d", base, count, got)
			}
		}
	}
}

// 2.3
func TestFollow(t *testing.T) {
	check(t, "Follow", Follow(16, 5, 2), 17)
	check(t, "Follow", Follow(19, 5, 2), 20)
	check(t, "Follow", Follow(16, 5, 0), 5)
	check(t, "Follow", Follow(16, 5, -3), 5)
	check(t, "Follow", Follow(16, 0, 2), 12)
	check(t, "Follow", Follow(0, 0, 16), 0)
	check(t, "Follow", Follow(3, 0, 2), 3)
	check(t, "Follow", Follow(1<<17, 0, 99), 1<<17-2)
	check(t, "Follow", Follow(most, most, 0), most)
	check(t, "Follow", Follow(most, 5, 16), most-(1<<48-1)+5)
	check(t, "Follow", Follow(most, 1<<48-2, 16), most-1)
	check(t, "Follow", Follow(most, 1<<48-1, 16), most)
	check(t, "Follow", Follow(most, 1<<48, 16), most)
	check(t, "Follow", Follow(most, most, 16), most)
	check(t, "Follow", Follow(0, most, 16), most)
	l := numbers()
	for i, mean := range l {
		for j, slow := range slows() {
			x := l[(i*31+j*7)%len(l)]
			want := new(big.Int).Sub(big64(mean), big64(actual(mean, slow)))
			want.Add(want, big64(x))
			if !want.IsUint64() {
				want.SetUint64(most)
			}
			if got := Follow(mean, x, slow); got != want.Uint64() {
				t.Errorf("Follow(%d, %d, %d) is %d, not %d", mean, x, slow, got, want)
			}
		}
	}
}

// actual is a mean as the document defines it, computed by a division.
func actual(mean uint64, slow int) uint64 {
	for range max(min(slow, 16), 0) {
		mean /= 2
	}
	return mean
}

// 2.3
func TestMean(t *testing.T) {
	check(t, "Mean", Mean(17, 2), 4)
	check(t, "Mean", Mean(19, 2), 4)
	check(t, "Mean", Mean(20, 2), 5)
	check(t, "Mean", Mean(17, 0), 17)
	check(t, "Mean", Mean(17, -1), 17)
	check(t, "Mean", Mean(17, math.MinInt), 17)
	check(t, "Mean", Mean(1<<20, 15), 32)
	check(t, "Mean", Mean(1<<20, 16), 16)
	check(t, "Mean", Mean(1<<20, 17), 16)
	check(t, "Mean", Mean(1<<20, math.MaxInt), 16)
	check(t, "Mean", Mean(most, 16), 1<<48-1)
	check(t, "Mean", Mean(1<<16-1, 16), 0)
	for _, mean := range numbers() {
		for _, slow := range slows() {
			check(t, "Mean", Mean(mean, slow), actual(mean, slow), mean)
		}
	}
}

// 2.4
func TestMonotonic(t *testing.T) {
	l := numbers()
	for i := range len(l) - 1 {
		if Sqrt(l[i]) > Sqrt(l[i+1]) || Log(l[i]) > Log(l[i+1]) {
			t.Errorf("a root falls between %d and %d", l[i], l[i+1])
		}
		for _, base := range []uint64{0, 1, 99, 1 << 16, 1<<31 - 1, 1 << 31, most} {
			if Part(base, l[i]) < Part(base, l[i+1]) {
				t.Errorf("a part of %d grows between %d and %d", base, l[i], l[i+1])
			}
		}
	}
}

// 2.5, from every start that is not greater than the number.
func TestMeanReachesWhatItFollows(t *testing.T) {
	for _, slow := range []int{-1, 0, 1, 2, 5, 8} {
		for _, x := range []uint64{0, 1, 2, 3, 17, 1000, 1 << 40, sat.Shift(1, 55)} {
			room := sat.Shift(1, slow)
			for _, start := range []uint64{0, 1, x / 2, x, x * room / 2, x * room, x*room + room - 1} {
				if Mean(start, slow) <= x {
					followConstant(t, start, x, slow)
				}
			}
		}
	}
}

// followConstant follows x until the mean must have reached it and stays.
func followConstant(t *testing.T, mean, x uint64, slow int) {
	t.Helper()
	start := mean
	reached := false
	// What is missing shrinks by one part in 2^slow each time, so steps in
	// proportion to 2^slow and to the bits of x are enough.
	for range int(sat.Shift(1, slow)) * 70 {
		mean = Follow(mean, x, slow)
		now := Mean(mean, slow)
		if now > x || reached && now != x {
			t.Fatalf("a mean that began at %d and follows %d by %d becomes %d", start, x, slow, now)
		}
		reached = now == x
	}
	if !reached {
		t.Errorf("a mean that began at %d and follows %d by %d stays at %d", start, x, slow, Mean(mean, slow))
	}
}

// 2.5, where the stored mean is capped: the greatest number times 2^-slow is
// all that a mean can be, and it stays there.
func TestMeanStaysAtTheCap(t *testing.T) {
	mean := uint64(0)
	for range 20 {
		mean = Follow(mean, most, 4)
		if Mean(mean, 4) != most>>4 {
			t.Errorf("the mean is %d", Mean(mean, 4))
		}
	}
}

// P1, P2: every call answers, and answers the same when asked again after
// other calls.
func TestAgain(t *testing.T) {
	var rounds [2][]uint64
	l := numbers()
	for round := range rounds {
		for i, n := range l {
			x := l[(i*31+7)%len(l)]
			rounds[round] = append(rounds[round], Sqrt(n), uint64(Log(n)), Part(n, x))
			for _, slow := range slows() {
				rounds[round] = append(rounds[round], Follow(n, x, slow), Mean(n, slow))
			}
		}
	}
	if !slices.Equal(rounds[0], rounds[1]) {
		t.Error("the second round differs from the first")
	}
}
