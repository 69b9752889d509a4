package ffs

import (
	"math"
	"slices"
	"testing"

	"pacemaker/api"
)

// sizes are the sizes of the sets with 1, 2 and 3 levels.
func sizes() []int {
	return []int{64, 4096, 262144}
}

// set makes a set of these numbers.
func set(t *testing.T, levels int, numbers ...int) *Set {
	t.Helper()
	s, err := New(levels)
	if s == nil || err != api.OK {
		t.Fatalf("New(%d) is %v, %d", levels, s, err)
	}
	for _, i := range numbers {
		if !s.Put(i) {
			t.Errorf("%d levels: Put(%d) is false", levels, i)
		}
	}
	return s
}

// places are those at which a search in a set of this size could go wrong, and
// those around the numbers of want.
func places(size int, want []int) []int {
	l := []int{math.MinInt, -1 << 40, -size, -64, -1, 0, 1, size/2 - 1, size / 2, size - 2, size - 1, size, size + 1, size + 64, 2 * size, 64 * size, 1 << 40, math.MaxInt - 1, math.MaxInt}
	for _, i := range want {
		l = append(l, i-65, i-64, i-63, i-1, i, i+1, i+63, i+64, i+65, i-4096, i+4096)
	}
	return l
}

// checkFrom tells whether From finds what it should among the sorted want.
func checkFrom(t *testing.T, s *Set, want []int, i int) {
	t.Helper()
	x, ok := 0, len(want) > 0
	if ok {
		at, _ := slices.BinarySearch(want, i)
		x = want[at%len(want)]
	}
	if got, is := s.From(i); got != x || is != ok {
		t.Errorf("From(%d) is %d, %t, not %d, %t", i, got, is, x, ok)
	}
}

// check tells whether a set consists of want, which is sorted, by everything
// that it answers.
func check(t *testing.T, s *Set, size int, want []int) {
	t.Helper()
	if s.Size() != size || s.Len() != len(want) {
		t.Errorf("Size is %d, not %d, or Len is %d, not %d", s.Size(), size, s.Len(), len(want))
	}
	if got := s.All(); !slices.Equal(got, want) {
		t.Errorf("All is %v, not %v", got, want)
	}
	some := want
	if len(some) > 50 {
		some = append(slices.Clone(want[:25]), want[len(want)-25:]...)
	}
	for _, i := range places(size, some) {
		_, is := slices.BinarySearch(want, i)
		if s.Has(i) != is {
			t.Errorf("Has(%d) is not %t", i, is)
		}
		checkFrom(t, s, want, i)
	}
}

// 8.1
func TestNew(t *testing.T) {
	for _, levels := range []int{0, -1, 4, 64, math.MinInt, math.MaxInt} {
		if s, err := New(levels); s != nil || err != api.ErrLevels {
			t.Errorf("New(%d) is %v, %d", levels, s, err)
		}
	}
	for k, size := range sizes() {
		check(t, set(t, k+1), size, nil)
	}
}

// 8.1, at the ends of a set and outside of it.
func TestEnds(t *testing.T) {
	for k, size := range sizes() {
		s := set(t, k+1, size-1, 0)
		want := []int{0, size - 1}
		check(t, s, size, want)
		for _, i := range []int{math.MinInt, -size, -64, -1, size, size + 1, 64 * size, math.MaxInt} {
			if s.Put(i) || s.Drop(i) || s.Has(i) {
				t.Errorf("%d is in a set of %d", i, size)
			}
			check(t, s, size, want)
		}
	}
}

// 8.1, of what is there already, and what is not there.
func TestPutAndDrop(t *testing.T) {
	for k, size := range sizes() {
		s := set(t, k+1)
		if s.Drop(5) {
			t.Error("Drop from an empty set")
		}
		if !s.Put(5) || s.Put(5) || s.Put(5) {
			t.Error("Put")
		}
		check(t, s, size, []int{5})
		if s.Drop(4) || s.Drop(6) {
			t.Error("Drop of what is not there")
		}
		check(t, s, size, []int{5})
		if !s.Drop(5) || s.Drop(5) {
			t.Error("Drop")
		}
		check(t, s, size, nil)
		if !s.Put(5) {
			t.Error("Put after Drop")
		}
		check(t, s, size, []int{5})
	}
}

// 8.2, the chapter's example.
func TestExample(t *testing.T) {
	for levels := 2; levels <= 3; levels++ {
		s := set(t, levels, 70, 3)
		for from, want := range map[int]int{4: 70, 71: 3, 3: 3, 70: 70, 0: 3, -1: 3} {
			if x, ok := s.From(from); x != want || !ok {
				t.Errorf("From(%d) is %d, %t", from, x, ok)
			}
		}
	}
}

// 8.2, each pair of numbers of a small set, from every place.
func TestPairs(t *testing.T) {
	for a := range 64 {
		for b := a + 1; b < 64; b++ {
			s := set(t, 1, a, b)
			for i := -1; i <= 65; i++ {
				checkFrom(t, s, []int{a, b}, i)
			}
		}
	}
}

// 8.1, 8.2: one number, wherever it is, is found from everywhere.
func TestOne(t *testing.T) {
	for k, size := range sizes() {
		s := set(t, k+1)
		for i := 0; i < size; i += 1 + size/1000 {
			s.Put(i)
			check(t, s, size, []int{i})
			s.Drop(i)
		}
		check(t, s, size, nil)
	}
}

// 8.1, 8.2: a full set, and one that becomes empty again.
func TestFull(t *testing.T) {
	for k, size := range sizes() {
		s := set(t, k+1)
		var want []int
		for i := range size {
			// 17 and a size have no common factor: each number comes once.
			if !s.Put((i*17 + 5) % size) {
				t.Fatalf("Put of number %d of %d", i, size)
			}
			want = append(want, i)
		}
		check(t, s, size, want)
		for i := range size - 3 {
			if !s.Drop(i) {
				t.Fatalf("Drop(%d) of %d", i, size)
			}
			checkFrom(t, s, want[i+1:], i*7%size)
		}
		check(t, s, size, want[size-3:])
		for _, i := range want[size-3:] {
			s.Drop(i)
		}
		check(t, s, size, nil)
	}
}

// 8.1, 8.2, with many turns, against a sorted list.
func TestMany(t *testing.T) {
	for k, size := range sizes() {
		s := set(t, k+1)
		var want []int
		seed := uint64(k)
		for turn := range 4000 {
			seed = seed*6364136223846793005 + 1442695040888963407
			i := int(seed>>33) % size
			// Numbers near each other share words.
			if seed>>20&3 > 0 {
				i = i % 130 * (size / 64) / 2 % size
			}
			at, is := slices.BinarySearch(want, i)
			// More come in some turns, and more go in others.
			if seed>>24%4 < uint64(1+turn/200%2*2) {
				if s.Put(i) == is {
					t.Errorf("Put(%d) is %t", i, !is)
				}
				if !is {
					want = slices.Insert(want, at, i)
				}
			} else {
				if s.Drop(i) != is {
					t.Errorf("Drop(%d) is not %t", i, is)
				}
				if is {
					want = slices.Delete(want, at, at+1)
				}
			}
			checkFrom(t, s, want, int(seed>>13)%(size+1))
			if turn%20 == 0 {
				check(t, s, size, want)
			}
		}
	}
}

// checkRound tells whether a round by From, from any start, has each number
// of want once.
func checkRound(t *testing.T, s *Set, want []int, start int) {
	t.Helper()
	var got []int
	i := start
	for range want {
		x, ok := s.From(i)
		if !ok {
			t.Errorf("From(%d) finds nothing", i)
		}
		got = append(got, x)
		i = x + 1
	}
	if x, _ := s.From(i); x != got[0] {
		t.Errorf("a round from %d begins again with %d, not %d", start, x, got[0])
	}
	slices.Sort(got)
	if !slices.Equal(got, want) {
		t.Errorf("a round from %d is %v, not %v", start, got, want)
	}
}

// 8.3
func TestRound(t *testing.T) {
	for k, size := range sizes() {
		for _, want := range [][]int{{0}, {size - 1}, {0, size - 1}, {31}, {0, 1, 2, 62, 63}, {5, 7, size - 9, size - 1}, {size / 2, size/2 + 1}} {
			s := set(t, k+1, want...)
			for _, start := range places(size, want) {
				checkRound(t, s, want, start)
			}
			check(t, s, size, want)
		}
	}
}

// 8.3, of sets with many numbers.
func TestLongRound(t *testing.T) {
	for k, size := range sizes() {
		for _, step := range []int{1, 2, 3, 63, 64, 65, 4095, 4096, 4097} {
			s := set(t, k+1)
			var want []int
			for i := step / 2; i < size; i += step {
				s.Put(i)
				want = append(want, i)
			}
			if len(want) > 0 {
				checkRound(t, s, want, 0)
				checkRound(t, s, want, size/3)
				checkRound(t, s, want, size)
			}
		}
	}
}

// Ownership, P2: a list that was handed out is the caller's, and sets know
// nothing of each other.
func TestShared(t *testing.T) {
	a, b := set(t, 2, 1, 100, 4000), set(t, 2, 2)
	l := a.All()
	l[0] = 9
	check(t, a, 4096, []int{1, 100, 4000})
	if l = a.All(); !a.Drop(100) || !slices.Equal(l, []int{1, 100, 4000}) {
		t.Errorf("a list that was handed out became %v", l)
	}
	check(t, a, 4096, []int{1, 4000})
	check(t, b, 4096, []int{2})
}

// 8.2, P1: sets that New did not make.
func TestNotMade(t *testing.T) {
	for _, s := range []*Set{nil, {}, new(Set)} {
		for _, i := range []int{math.MinInt, -1, 0, 1, 63, 64, math.MaxInt} {
			if s.Put(i) || s.Drop(i) || s.Has(i) {
				t.Errorf("%d is in a set that New did not make", i)
			}
			check(t, s, 0, nil)
		}
	}
}
