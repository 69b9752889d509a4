package sat

import (
	"math"
	"math/big"
	"slices"
	"testing"

	"pacemaker/api"
)

const most = api.MaxU64

// edges are numbers near which a carry, a cap or a sign could go wrong.
func edges() []uint64 {
	return []uint64{
		0, 1, 2, 3, 7, 10,
		1<<31 - 1, 1 << 31, 1<<32 - 1, 1 << 32, 1<<32 + 1,
		most / 3, most / 2, 1 << 63, 1<<63 + 1,
		most - 2, most - 1, most,
	}
}

// some gives numbers of all lengths, the same ones in every run.
func some(n int) []uint64 {
	var l []uint64
	x := uint64(1)
	for i := range n {
		x = x*6364136223846793005 + 1442695040888963407
		l = append(l, (x^x>>29)>>(i%64))
	}
	return l
}

func big64(x uint64) *big.Int { return new(big.Int).SetUint64(x) }

func bigMul(a, b uint64) *big.Int { return new(big.Int).Mul(big64(a), big64(b)) }

// cap64 is an exact result as the document returns it.
func cap64(x *big.Int) uint64 {
	if x.IsUint64() {
		return x.Uint64()
	}
	return most
}

func check(t *testing.T, what string, got, want uint64, args ...uint64) {
	t.Helper()
	if got != want {
		t.Errorf("%s%v is %d, not %d", what, args, got, want)
	}
}

// pairs calls f with pairs of edges and of other numbers.
func pairs(f func(a, b uint64)) {
	for _, a := range edges() {
		for _, b := range edges() {
			f(a, b)
		}
	}
	l := some(2000)
	for i := range len(l) - 7 {
		f(l[i], l[i+7])
		f(l[i+7], l[i])
	}
}

// triples calls f with triples of edges and of other numbers.
func triples(f func(a, b, c uint64)) {
	for _, a := range edges() {
		for _, b := range edges() {
			for _, c := range edges() {
				f(a, b, c)
			}
		}
	}
	l := some(2000)
	for i := range len(l) - 21 {
		f(l[i], l[i+7], l[i+21])
		f(l[i+21], l[i], l[i+7])
	}
}

// 1.1, at the greatest number, just below it and above it.
func TestCaps(t *testing.T) {
	check(t, "Add", Add(3, 4), 7, 3, 4)
	check(t, "Add", Add(most-2, 1), most-1)
	check(t, "Add", Add(most-1, 1), most)
	check(t, "Add", Add(most-1, 2), most)
	check(t, "Add", Add(most-1, 5), most)
	check(t, "Add", Add(most, most), most)
	check(t, "Sub", Sub(most, most), 0)
	check(t, "Sub", Sub(most, 0), most)
	check(t, "Sub", Sub(0, most), 0)
	check(t, "Sub", Sub(4, 5), 0)
	check(t, "Sub", Sub(5, 5), 0)
	check(t, "Sub", Sub(6, 5), 1)
	check(t, "Mul", Mul(most/3, 3), most)
	check(t, "Mul", Mul(1<<32-1, 1<<32+1), most)
	check(t, "Mul", Mul(most/2, 2), most-1)
	check(t, "Mul", Mul(1<<63, 2), most)
	check(t, "Mul", Mul(1<<32, 1<<32), most)
	check(t, "Mul", Mul(most, 0), 0)
	check(t, "MulAdd", MulAdd(0, most/3, 3), most)
	check(t, "MulAdd", MulAdd(1, most/2, 2), most)
	check(t, "MulAdd", MulAdd(0, most/2, 2), most-1)
	check(t, "MulAdd", MulAdd(2, most/2, 2), most)
	check(t, "MulAdd", MulAdd(0, 1<<32, 1<<32), most)
	check(t, "MulAdd", MulAdd(5, 1<<33, 1<<31), most)
	check(t, "MulAdd", MulAdd(most, 0, most), most)
}

// 1.1
func TestSums(t *testing.T) {
	pairs(func(a, b uint64) {
		sum := new(big.Int).Add(big64(a), big64(b))
		check(t, "Add", Add(a, b), cap64(sum), a, b)
		check(t, "Mul", Mul(a, b), cap64(bigMul(a, b)), a, b)
		difference := new(big.Int).Sub(big64(a), big64(b))
		if difference.Sign() < 0 {
			difference.SetInt64(0)
		}
		check(t, "Sub", Sub(a, b), difference.Uint64(), a, b)
	})
	triples(func(a, b, c uint64) {
		sum := bigMul(b, c)
		sum.Add(sum, big64(a))
		check(t, "MulAdd", MulAdd(a, b, c), cap64(sum), a, b, c)
		sum.Add(sum.Add(big64(a), big64(b)), big64(c))
		check(t, "Sum", Sum(a, b, c), cap64(sum), a, b, c)
	})
}

// 1.1
func TestShift(t *testing.T) {
	for _, a := range append(edges(), some(200)...) {
		for n := range 200 {
			want := new(big.Int).Lsh(big64(a), uint(n))
			check(t, "Shift", Shift(a, n), cap64(want), a, uint64(n))
		}
		for _, n := range []int{-1, -2, -63, -64, -65, math.MinInt} {
			if got := Shift(a, n); got != a {
				t.Errorf("Shift(%d, %d) is %d", a, n, got)
			}
		}
		for _, n := range []int{1000, math.MaxInt32, math.MaxInt} {
			want := uint64(most)
			if a == 0 {
				want = 0
			}
			check(t, "Shift", Shift(a, n), want, a, uint64(n))
		}
	}
	check(t, "Shift", Shift(most/2, 1), most-1)
	check(t, "Shift", Shift(most/2+1, 1), most)
	check(t, "Shift", Shift(most, 0), most)
}

// 1.1
func TestSum(t *testing.T) {
	check(t, "Sum", Sum(), 0)
	check(t, "Sum", Sum([]uint64{}...), 0)
	check(t, "Sum", Sum(nil...), 0)
	check(t, "Sum", Sum(9), 9)
	check(t, "Sum", Sum(most), most)
	check(t, "Sum", Sum(1, 2, 3, 4), 10)
	check(t, "Sum", Sum(most-3, 1, 1), most-1)
	check(t, "Sum", Sum(most-3, 1, 1, 1), most)
	check(t, "Sum", Sum(most-3, 1, 1, 1, 1), most)
	check(t, "Sum", Sum(1, most, 0, 5), most)
	check(t, "Sum", Sum(1<<63, 1<<63, 1<<63, 7), most)
}

// 1.2
func TestMulDiv(t *testing.T) {
	triples(func(a, b, c uint64) {
		want := uint64(most)
		if c != 0 {
			want = cap64(new(big.Int).Div(bigMul(a, b), big64(c)))
		}
		check(t, "MulDiv", MulDiv(a, b, c), want, a, b, c)
	})
	check(t, "MulDiv", MulDiv(1<<63, 6, 4), 3<<62)
	check(t, "MulDiv", MulDiv(7, 3, 2), 10)
	check(t, "MulDiv", MulDiv(0, 0, 0), most)
	check(t, "MulDiv", MulDiv(0, 9, 0), most)
	check(t, "MulDiv", MulDiv(most, most, 0), most)
	check(t, "MulDiv", MulDiv(most, most, most), most)
	check(t, "MulDiv", MulDiv(most-1, most, most), most-1)
	check(t, "MulDiv", MulDiv(most, most, most-1), most)
	check(t, "MulDiv", MulDiv(1<<63, 2, 1), most)
	check(t, "MulDiv", MulDiv(1<<63, 4, 2), most)
	check(t, "MulDiv", MulDiv(most, 5, 5), most)
}

// 1.2
func TestDivUp(t *testing.T) {
	pairs(func(a, b uint64) {
		got := DivUp(a, b)
		if b == 0 {
			want := uint64(most)
			if a == 0 {
				want = 0
			}
			check(t, "DivUp", got, want, a, b)
			return
		}
		if bigMul(got, b).Cmp(big64(a)) < 0 {
			t.Errorf("DivUp(%d, %d) is %d: too small", a, b, got)
		}
		if got > 0 && bigMul(got-1, b).Cmp(big64(a)) >= 0 {
			t.Errorf("DivUp(%d, %d) is %d: not the least", a, b, got)
		}
	})
	check(t, "DivUp", DivUp(7, 3), 3)
	check(t, "DivUp", DivUp(6, 3), 2)
	check(t, "DivUp", DivUp(0, 3), 0)
	check(t, "DivUp", DivUp(0, 0), 0)
	check(t, "DivUp", DivUp(1, 0), most)
	check(t, "DivUp", DivUp(most, 0), most)
	check(t, "DivUp", DivUp(most, 1), most)
	check(t, "DivUp", DivUp(most, 2), 1<<63)
	check(t, "DivUp", DivUp(1, most), 1)
	check(t, "DivUp", DivUp(most, most), 1)
	check(t, "DivUp", DivUp(most, most-1), 2)
}

// 1.3
func TestUnder(t *testing.T) {
	triples(func(a, b, c uint64) {
		for _, d := range []uint64{0, 1, b, a, c, most / 2, most - 1, most} {
			want := bigMul(a, b).Cmp(bigMul(c, d)) < 0
			if Under(a, b, c, d) != want {
				t.Errorf("Under(%d, %d, %d, %d) is not %t", a, b, c, d, want)
			}
		}
	})
	if !Under(2, 3, 1, 7) || Under(2, 3, 6, 1) || Under(2, 3, 5, 1) {
		t.Error("small products")
	}
	if !Under(most, most-1, most, most) || Under(most, most, most, most) || Under(most, 2, 2, most) {
		t.Error("products above the greatest number")
	}
	if !Under(most, 1, 1<<32, 1<<32) || Under(1<<32, 1<<32, most, 1) {
		t.Error("products on both sides of the greatest number")
	}
}

// 1.4
func TestInverses(t *testing.T) {
	pairs(func(a, b uint64) {
		if sum := Add(a, b); sum < most {
			check(t, "Sub of Add", Sub(sum, b), a, a, b)
			check(t, "Sub of Add", Sub(sum, a), b, a, b)
		}
		if product := Mul(a, b); b != 0 && product < most {
			check(t, "MulDiv of Mul", MulDiv(product, 1, b), a, a, b)
			check(t, "DivUp of Mul", DivUp(product, b), a, a, b)
		}
	})
}

// 1.5
func TestMonotonic(t *testing.T) {
	triples(func(a, b, c uint64) {
		for _, more := range []uint64{0, 1, 2, 1 << 20, 1 << 62, most} {
			grown := a + min(more, most-a)
			rising(t, "Add", Add(a, b), Add(grown, b), Add(b, a), Add(b, grown))
			rising(t, "Mul", Mul(a, b), Mul(grown, b), Mul(b, a), Mul(b, grown))
			rising(t, "MulAdd", MulAdd(a, b, c), MulAdd(grown, b, c),
				MulAdd(b, a, c), MulAdd(b, grown, c), MulAdd(b, c, a), MulAdd(b, c, grown))
			rising(t, "Sum", Sum(a, b, c), Sum(grown, b, c),
				Sum(b, a, c), Sum(b, grown, c), Sum(b, c, a), Sum(b, c, grown), Sum(a, b), Sum(a, b, c))
		}
	})
}

// rising tells of pairs whose second number is the smaller one.
func rising(t *testing.T, what string, l ...uint64) {
	t.Helper()
	for i := 0; i < len(l); i += 2 {
		if l[i] > l[i+1] {
			t.Errorf("%s falls from %d to %d", what, l[i], l[i+1])
		}
	}
}

// P1, P2: every call answers, and answers the same when asked again after
// other calls.
func TestAgain(t *testing.T) {
	ask := func(a, b, c uint64) []uint64 {
		under := uint64(0)
		if Under(a, b, c, a) {
			under = 1
		}
		return []uint64{
			Add(a, b), Sub(a, b), Mul(a, b), MulAdd(a, b, c), MulDiv(a, b, c),
			DivUp(a, b), Shift(a, int(b)), Sum(a, b, c), under,
		}
	}
	var first [][]uint64
	triples(func(a, b, c uint64) { first = append(first, ask(a, b, c)) })
	i := 0
	triples(func(a, b, c uint64) {
		if got := ask(a, b, c); !slices.Equal(got, first[i]) {
			t.Errorf("of %d, %d, %d: first %v, then %v", a, b, c, first[i], got)
		}
		i++
	})
}

// Ownership: arguments are not modified.
func TestSumKeepsItsArguments(t *testing.T) {
	l := []uint64{5, most, 0, 7}
	Sum(l...)
	if !slices.Equal(l, []uint64{5, most, 0, 7}) {
		t.Errorf("the arguments became %v", l)
	}
}
