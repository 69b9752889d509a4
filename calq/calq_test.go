package calq

import (
	"cmp"
	"math"
	"runtime"
	"slices"
	"strconv"
	"testing"
	"weak"

	"pacemaker/api"
	"pacemaker/heappifo"
)

// item is an element with its rank.
type item[T any] = heappifo.Item[T]

// of returns the item of an element and its rank.
func of[T any](rank uint64, x T) item[T] {
	return item[T]{Rank: rank, X: x}
}

// allLevels are the numbers of levels that a calendar can have.
var allLevels = []int{1, 2, 3}

// sizeOf returns the number of ranks of a window.
func sizeOf(levels int) uint64 {
	return 1 << (6 * levels)
}

// newCalendar makes a calendar with room for so many items.
func newCalendar[T any](t *testing.T, room, levels int) *Calendar[T] {
	t.Helper()
	c, err := New[T](room, levels)
	if c == nil || err != api.OK {
		t.Fatalf("New(%d, %d) is %v, %d", room, levels, c, err)
	}
	return c
}

// insert adds an item behind all those in order that it comes after.
func insert[T any](l []item[T], rank uint64, x T) []item[T] {
	i := 0
	for i < len(l) && l[i].Rank <= rank {
		i++
	}
	return slices.Insert(l, i, of(rank, x))
}

// first returns what Peek and Pop should of items in order.
func first[T any](l []item[T]) (uint64, T, bool) {
	if len(l) == 0 {
		var none T
		return 0, none, false
	}
	return l[0].Rank, l[0].X, true
}

func checkPush[T any](t *testing.T, c *Calendar[T], rank uint64, x T, want bool) {
	t.Helper()
	if got := c.Push(rank, x); got != want {
		t.Fatalf("Push(%d, %v) is %t", rank, x, got)
	}
}

// checkPop tells whether the first item of want leaves, and returns the others.
func checkPop[T comparable](t *testing.T, c *Calendar[T], want []item[T]) []item[T] {
	t.Helper()
	rank, x, ok := first(want)
	if r, y, is := c.Pop(); r != rank || y != x || is != ok {
		t.Fatalf("Pop is %d, %v, %t, not %d, %v, %t", r, y, is, rank, x, ok)
	}
	return want[min(1, len(want)):]
}

// checkHead tells what there is to tell of want without going through all items.
func checkHead[T comparable](t *testing.T, c *Calendar[T], want []item[T]) {
	t.Helper()
	rank, x, ok := first(want)
	if r, y, is := c.Peek(); r != rank || y != x || is != ok {
		t.Fatalf("Peek is %d, %v, %t, not %d, %v, %t", r, y, is, rank, x, ok)
	}
	if c.Len() != len(want) {
		t.Fatalf("Len is %d, not %d", c.Len(), len(want))
	}
}

// check tells whether a calendar holds want, by everything that it answers.
func check[T comparable](t *testing.T, c *Calendar[T], want []item[T]) {
	t.Helper()
	checkHead(t, c, want)
	if got := c.All(); !slices.Equal(got, want) {
		t.Fatalf("All is %v, not %v", got, want)
	}
}

// checkEmptied tells whether the items of want leave a calendar, and then
// nothing.
func checkEmptied[T comparable](t *testing.T, c *Calendar[T], want []item[T]) {
	t.Helper()
	for len(want) > 0 {
		checkHead(t, c, want)
		want = checkPop(t, c, want)
	}
	checkPop(t, c, nil)
	check(t, c, nil)
}

// eachLevel does a test with each number of levels.
func eachLevel(t *testing.T, test func(t *testing.T, levels int)) {
	for _, levels := range allLevels {
		t.Run(strconv.Itoa(levels), func(t *testing.T) { test(t, levels) })
	}
}

// 11.1
func TestNew(t *testing.T) {
	noLevels := []int{0, -1, 4, 5, 64, math.MinInt, math.MaxInt}
	for _, room := range []int{0, -1, api.MaxPackets + 1, 2 * api.MaxPackets, api.MaxRing, math.MinInt, math.MaxInt} {
		for _, levels := range append(noLevels, allLevels...) {
			if c, err := New[int](room, levels); c != nil || err != api.ErrCaps {
				t.Errorf("New(%d, %d) is %v, %d", room, levels, c, err)
			}
		}
	}
	for _, room := range []int{1, 2, 3, 1000, api.MaxPackets - 1, api.MaxPackets} {
		for _, levels := range noLevels {
			if c, err := New[int](room, levels); c != nil || err != api.ErrLevels {
				t.Errorf("New(%d, %d) is %v, %d", room, levels, c, err)
			}
		}
		for _, levels := range allLevels {
			check(t, newCalendar[int](t, room, levels), nil)
		}
	}
}

// 11.1, the chapter's example.
func TestExample(t *testing.T) {
	eachLevel(t, func(t *testing.T, levels int) {
		c := newCalendar[string](t, 5, levels)
		checkPush(t, c, 5, "a", true)
		checkPush(t, c, api.MaxU64, "b", true)
		checkPush(t, c, 70000, "c", true)
		checkPush(t, c, 5, "d", true)
		checkPush(t, c, 0, "e", true)
		want := []item[string]{of(0, "e"), of(5, "a"), of(5, "d"), of(70000, "c"), of(api.MaxU64, "b")}
		check(t, c, want)
		checkEmptied(t, c, want)
	})
}

// 11.1, with room for one item: each one is far from the one before it, or near.
func TestRoomOfOne(t *testing.T) {
	eachLevel(t, func(t *testing.T, levels int) {
		c := newCalendar[string](t, 1, levels)
		for i, rank := range []uint64{0, api.MaxU64, 0, 1, 5, 4, sizeOf(levels) + 4, 4, 4, api.MaxU64 - 1, api.MaxU64} {
			want := []item[string]{of(rank, strconv.Itoa(i))}
			checkPush(t, c, want[0].Rank, want[0].X, true)
			checkPush(t, c, 0, "less", false)
			checkPush(t, c, rank, "equal", false)
			checkPush(t, c, api.MaxU64, "more", false)
			check(t, c, want)
			checkEmptied(t, c, want)
		}
	})
}

// 11.1, with all the room that a calendar can have.
func TestGreatestRoom(t *testing.T) {
	eachLevel(t, func(t *testing.T, levels int) {
		for _, step := range []uint64{1, sizeOf(levels) / 8, sizeOf(levels)} {
			c := newCalendar[int](t, api.MaxPackets, levels)
			var want []item[int]
			for i := range api.MaxPackets {
				// 1021 is a prime: the ranks go up and down, and each comes often.
				rank := uint64(i*57%1021) * step
				checkPush(t, c, rank, i, true)
				want = insert(want, rank, i)
				checkHead(t, c, want)
			}
			checkPush(t, c, 0, -1, false)
			checkPush(t, c, api.MaxU64, -1, false)
			check(t, c, want)
			for range 100 {
				want = checkPop(t, c, want)
			}
			for i := range 100 {
				checkPush(t, c, 500, -i, true)
				want = insert(want, 500, -i)
			}
			checkPush(t, c, 500, -100, false)
			check(t, c, want)
			checkEmptied(t, c, want)
		}
	})
}

// 11.1: what is refused, and what there is not, leaves a calendar as it was.
func TestNothing(t *testing.T) {
	eachLevel(t, func(t *testing.T, levels int) {
		c := newCalendar[string](t, 3, levels)
		for range 3 {
			checkPop(t, c, nil)
			check(t, c, nil)
		}
		checkPush(t, c, 7, "a", true)
		checkPush(t, c, 1<<40, "b", true)
		checkPush(t, c, 8, "c", true)
		want := []item[string]{of(7, "a"), of(8, "c"), of(1<<40, "b")}
		for _, rank := range []uint64{0, 7, 8, 9, 1<<40 - 1, 1 << 40, 1<<40 + 1, api.MaxU64} {
			checkPush(t, c, rank, "d", false)
			check(t, c, want)
		}
		checkEmptied(t, c, want)
		checkPop(t, c, nil)
		checkPush(t, c, 1, "e", true)
		check(t, c, []item[string]{of(1, "e")})
	})
}

// 11.1: a single item, of any rank, in calendars of which the window has been
// anywhere.
func TestOne(t *testing.T) {
	ranks := []uint64{0, 1, 63, 64, 1<<32 - 1, 1 << 32, 1<<63 - 1, 1 << 63, api.MaxU64 - 63, api.MaxU64 - 1, api.MaxU64}
	eachLevel(t, func(t *testing.T, levels int) {
		for _, before := range ranks {
			c := newCalendar[string](t, 2, levels)
			for _, rank := range ranks {
				checkPush(t, c, before, "before", true)
				checkEmptied(t, c, []item[string]{of(before, "before")})
				checkPush(t, c, rank, "a", true)
				check(t, c, []item[string]{of(rank, "a")})
				checkEmptied(t, c, []item[string]{of(rank, "a")})
			}
		}
	})
}

// around returns the ranks on both sides of the ends of a window that begins
// with base, and of the windows beside it.
func around(base, size uint64) []uint64 {
	var l []uint64
	for _, end := range []uint64{0, size, 2 * size} {
		for _, d := range []uint64{end - 1, end, end + 1} {
			if base <= api.MaxU64-d {
				l = append(l, base+d)
			}
			if base >= d {
				l = append(l, base-d)
			}
		}
	}
	slices.Sort(l)
	return slices.Compact(l)
}

// 11.1: three ranks around the ends of windows that begin anywhere, the second
// one before or after an item left.
func TestWindowEnds(t *testing.T) {
	eachLevel(t, func(t *testing.T, levels int) {
		size := sizeOf(levels)
		for _, base := range []uint64{0, 1, 63, 64, size - 1, size, 1 << 40, api.MaxU64 - 2*size, api.MaxU64 - size, api.MaxU64 - 64, api.MaxU64} {
			c := newCalendar[int](t, 6, levels)
			for _, a := range around(base, size) {
				for _, b := range around(base, size) {
					for pops := range 3 {
						var want []item[int]
						for i, rank := range []uint64{base, a, b, a, base, b} {
							checkPush(t, c, rank, i, true)
							want = insert(want, rank, i)
							check(t, c, want)
							if i == pops {
								want = checkPop(t, c, want)
								check(t, c, want)
							}
						}
						checkEmptied(t, c, want)
					}
				}
			}
		}
	})
}

// checkSorted pushes items of these ranks and tells whether they leave as a
// stable sort orders them.
func checkSorted(t *testing.T, c *Calendar[int], ranks []uint64) {
	t.Helper()
	var want []item[int]
	for i, rank := range ranks {
		checkPush(t, c, rank, i, true)
		want = append(want, of(rank, i))
	}
	slices.SortStableFunc(want, func(a, b item[int]) int { return cmp.Compare(a.Rank, b.Rank) })
	check(t, c, want)
	checkEmptied(t, c, want)
}

// 11.1: ranks that rise, fall, go both ways, or are equal, some or all of them,
// so near one another and so far apart as they can be.
func TestStableSort(t *testing.T) {
	rules := map[string]func(i, n int) int{
		"rise":         func(i, n int) int { return i },
		"fall":         func(i, n int) int { return n - i },
		"up and down":  func(i, n int) int { return max(i, n-i) },
		"down and up":  func(i, n int) int { return min(i, n-i) },
		"by turns":     func(i, n int) int { return i % 2 * n },
		"pairs rise":   func(i, n int) int { return i / 2 },
		"pairs fall":   func(i, n int) int { return (n - i) / 2 },
		"equal":        func(i, n int) int { return 7 },
		"one is less":  func(i, n int) int { return min(1, max(i-n/2, n/2-i)) },
		"one is more":  func(i, n int) int { return n - max(i-n/2, n/2-i, 1) },
		"a few, often": func(i, n int) int { return i * i % 5 },
	}
	for name, rule := range rules {
		t.Run(name, func(t *testing.T) {
			for _, levels := range allLevels {
				size := sizeOf(levels)
				c := newCalendar[int](t, 300, levels)
				for _, step := range []uint64{1, 3, size / 8, size / 2, size - 1, size, size + 1, api.MaxU64 / 300} {
					for _, n := range []int{0, 1, 2, 3, 9, 64, 65, 66, 300} {
						ranks := make([]uint64, n)
						for i := range ranks {
							ranks[i] = uint64(rule(i, n)) * step
						}
						checkSorted(t, c, ranks)
					}
				}
			}
		})
	}
}

// checkTurns does as the digits of k to base 5 say: a 4 is a Pop, another digit
// a Push of the rank with this index.
func checkTurns(t *testing.T, c *Calendar[int], ranks [4]uint64, n, k int) {
	t.Helper()
	var want []item[int]
	for i := range n {
		if turn := k % 5; turn < len(ranks) {
			checkPush(t, c, ranks[turn], i, true)
			want = insert(want, ranks[turn], i)
		} else {
			want = checkPop(t, c, want)
		}
		check(t, c, want)
		k /= 5
	}
	checkEmptied(t, c, want)
}

// 11.1: all sequences of few pushes, of ranks in one window and in others, and
// of pops among them.
func TestAllSequences(t *testing.T) {
	eachLevel(t, func(t *testing.T, levels int) {
		size := sizeOf(levels)
		for _, ranks := range [][4]uint64{
			{10, 10 + size/2, 10 + size, 10 + 3*size/2},
			{0, size - 1, size, 2*size - 1},
			{api.MaxU64 - 2*size, api.MaxU64 - size, api.MaxU64 - 1, api.MaxU64},
			{0, 1, api.MaxU64 - 1, api.MaxU64},
		} {
			const turns = 5
			c := newCalendar[int](t, turns, levels)
			for k := range int(math.Pow(5, turns)) {
				checkTurns(t, c, ranks, turns, k)
				if levels == 1 { // so that the window has been nowhere before
					checkTurns(t, newCalendar[int](t, turns, levels), ranks, turns, k)
				}
			}
		}
	})
}

// 11.1: items of equal ranks stay in the order in which they came while the
// window goes away from them and comes back.
func TestEqualAmongOthers(t *testing.T) {
	eachLevel(t, func(t *testing.T, levels int) {
		size := sizeOf(levels)
		c := newCalendar[int](t, 20, levels)
		const middle = 1 << 30
		var want []item[int]
		for i := range 400 {
			for _, rank := range []uint64{middle, middle + uint64(i%5-2)*(size/2+1), middle} {
				checkPush(t, c, rank, 10*i, len(want) < 20)
				if len(want) < 20 {
					want = insert(want, rank, 10*i)
				}
			}
			for range 1 + i%5 {
				want = checkPop(t, c, want)
			}
			check(t, c, want)
		}
		checkEmptied(t, c, want)
	})
}

// checkAgainstHeap does the same with a calendar and a heap, many times, and
// tells whether they answer the same. Ranks are those below spread, and those
// above a mark that rises with what leaves.
func checkAgainstHeap(t *testing.T, room, levels int, spread uint64) {
	t.Helper()
	c := newCalendar[int](t, room, levels)
	h, _ := heappifo.New[int](room)
	seed, mark := spread+uint64(room), uint64(0)
	for i := range 2000 {
		seed = seed*6364136223846793005 + 1442695040888963407
		// They are filled and emptied by turns.
		if seed>>40%8 < uint64(3+2*(i/(3*room)%2)) {
			rank := (seed>>32 ^ seed<<32) % spread
			if seed>>50%4 > 0 {
				rank += mark
			}
			if got, want := c.Push(rank, i), h.Push(rank, i); got != want {
				t.Fatalf("Push(%d, %d) is %t, not %t", rank, i, got, want)
			}
		} else {
			rank, x, ok := h.Pop()
			if r, y, is := c.Pop(); r != rank || y != x || is != ok {
				t.Fatalf("Pop is %d, %d, %t, not %d, %d, %t", r, y, is, rank, x, ok)
			}
			mark = rank
		}
		rank, x, ok := h.Peek()
		if r, y, is := c.Peek(); r != rank || y != x || is != ok {
			t.Fatalf("Peek is %d, %d, %t, not %d, %d, %t", r, y, is, rank, x, ok)
		}
		if c.Len() != h.Len() {
			t.Fatalf("Len is %d, not %d", c.Len(), h.Len())
		}
		if got, want := c.All(), h.All(); !slices.Equal(got, want) {
			t.Fatalf("All is %v, not %v", got, want)
		}
	}
}

// 11.2
func TestAgainstHeap(t *testing.T) {
	eachLevel(t, func(t *testing.T, levels int) {
		size := sizeOf(levels)
		for _, room := range []int{1, 2, 3, 5, 16, 100} {
			for _, spread := range []uint64{1, 2, 5, size / 2, size, size + 1, 2 * size, 10 * size, 1 << 40, api.MaxU64} {
				checkAgainstHeap(t, room, levels, spread)
			}
		}
	})
}

// 11.3: a calendar that is looked at goes on as one that is not.
func TestPeek(t *testing.T) {
	eachLevel(t, func(t *testing.T, levels int) {
		a, b := newCalendar[int](t, 30, levels), newCalendar[int](t, 30, levels)
		seed := uint64(levels)
		for i := range 2000 {
			seed = seed*6364136223846793005 + 1442695040888963407
			for range i % 4 {
				a.Peek()
				a.All()
				a.Len()
			}
			if rank := seed >> 33 % (3 * sizeOf(levels)); seed>>62 > 0 {
				checkPush(t, a, rank, i, b.Push(rank, i))
			}
			if seed>>60%2 > 0 {
				rank, x, ok := b.Pop()
				if r, y, is := a.Pop(); r != rank || y != x || is != ok {
					t.Fatalf("Pop is %d, %d, %t, not %d, %d, %t", r, y, is, rank, x, ok)
				}
			}
		}
		check(t, a, b.All())
	})
}

// 11.1, Ownership: All and Peek change nothing, and lists that were handed out
// share nothing.
func TestLists(t *testing.T) {
	eachLevel(t, func(t *testing.T, levels int) {
		c := newCalendar[int](t, 6, levels)
		for i, rank := range []uint64{4, 1, 1 << 50, 4, 0, 4} {
			checkPush(t, c, rank, i, true)
		}
		want := []item[int]{of(0, 4), of(1, 1), of(4, 0), of(4, 3), of(4, 5), of(1<<50, 2)}
		for range 3 {
			check(t, c, want)
		}
		a, b := c.All(), c.All()
		for i := range a {
			a[i] = of(7, 7)
		}
		_ = append(a[:0], of(8, 8))
		if !slices.Equal(b, want) {
			t.Errorf("a list became %v as another one was changed", b)
		}
		check(t, c, want)
		checkEmptied(t, c, want)
		checkPush(t, c, 3, 3, true)
		if !slices.Equal(b, want) {
			t.Errorf("a list that was handed out became %v", b)
		}
		check(t, c, []item[int]{of(3, 3)})
	})
}

// P2: calendars know nothing of each other.
func TestTwoCalendars(t *testing.T) {
	a, b := newCalendar[int](t, 2, 1), newCalendar[int](t, 3, 1)
	checkPush(t, a, 5, 1, true)
	checkPush(t, b, 5, 7, true)
	checkPush(t, b, 500, 8, true)
	checkPush(t, a, 500, 2, true)
	checkPop(t, a, []item[int]{of(5, 1)})
	check(t, a, []item[int]{of(500, 2)})
	check(t, b, []item[int]{of(5, 7), of(500, 8)})
}

// 11.1, of elements of other types.
func TestTypes(t *testing.T) {
	type pair struct{ a, b int }
	pairs := newCalendar[pair](t, 2, 1)
	checkPush(t, pairs, 200, pair{1, 2}, true)
	checkPush(t, pairs, 1, pair{3, 4}, true)
	checkEmptied(t, pairs, []item[pair]{of(1, pair{3, 4}), of(200, pair{1, 2})})
	empties := newCalendar[struct{}](t, 2, 2)
	checkPush(t, empties, 2, struct{}{}, true)
	checkPush(t, empties, 1, struct{}{}, true)
	checkPush(t, empties, 0, struct{}{}, false)
	checkEmptied(t, empties, []item[struct{}]{of(1, struct{}{}), of(2, struct{}{})})
	boxed := newCalendar[any](t, 2, 1)
	checkPush(t, boxed, 6, nil, true)
	check(t, boxed, []item[any]{of[any](6, nil)})
	checkPush(t, boxed, 6, "a", true)
	checkEmptied(t, boxed, []item[any]{of[any](6, nil), of[any](6, "a")})
	lists := newCalendar[[]int](t, 1, 1)
	if rank, x, ok := lists.Pop(); rank != 0 || x != nil || ok {
		t.Error("Pop of no list")
	}
	checkPush(t, lists, 8, []int{5}, true)
	if rank, x, ok := lists.Pop(); rank != 8 || !slices.Equal(x, []int{5}) || !ok {
		t.Errorf("Pop is %d, %v, %t", rank, x, ok)
	}
}

// 11.1, P1: calendars that New did not make.
func TestNotMade(t *testing.T) {
	refused, _ := New[string](0, 1)
	for _, c := range []*Calendar[string]{nil, {}, new(Calendar[string]), refused} {
		for _, rank := range []uint64{0, 1, api.MaxU64} {
			checkPush(t, c, rank, "a", false)
			checkPop(t, c, nil)
			check(t, c, nil)
		}
	}
}

// checkWindow tells whether so many items are inside a window that begins with
// base, and whether that is where they belong.
func checkWindow(t *testing.T, c *Calendar[int], base uint64, inside int) {
	t.Helper()
	if c.base != base || c.inside.Len() != inside {
		t.Errorf("%d items are in the window from %d on", c.inside.Len(), c.base)
	}
	for _, i := range c.window() {
		if !c.has(i.Rank) {
			t.Errorf("the rank %d is in the window from %d on", i.Rank, c.base)
		}
	}
	for _, i := range c.outside.All() {
		if c.has(i.Rank) {
			t.Errorf("the rank %d is not in the window from %d on", i.Rank, c.base)
		}
	}
}

// The window moves up and down with the least rank, but not away from an item.
func TestWindowMoves(t *testing.T) {
	c := newCalendar[int](t, 20, 1)
	push := func(rank uint64) { checkPush(t, c, rank, 0, true) }
	push(1000)
	checkWindow(t, c, 1000, 1)
	push(990)
	checkWindow(t, c, 990, 2)
	push(1060)
	checkWindow(t, c, 990, 2)
	c.Pop()
	checkWindow(t, c, 1000, 2)
	push(997)
	checkWindow(t, c, 997, 3)
	push(996)
	checkWindow(t, c, 997, 3)
	push(5)
	push(6)
	checkWindow(t, c, 997, 3)
	c.Pop()
	c.Pop()
	checkWindow(t, c, 997, 3)
	c.Pop()
	checkWindow(t, c, 997, 3)
	push(api.MaxU64)
	push(api.MaxU64 - 63)
	push(api.MaxU64 - 64)
	for range 3 {
		c.Pop()
	}
	checkWindow(t, c, api.MaxU64-64, 2)
	c.Pop()
	checkWindow(t, c, api.MaxU64-63, 2)
	c.Pop()
	checkWindow(t, c, api.MaxU64, 1)
	c.Pop()
	push(10)
	checkWindow(t, c, 10, 1)
	push(0)
	checkWindow(t, c, 0, 2)
}

// push pushes a new element and returns a pointer that doesn't keep it.
func push(c *Calendar[*[64]byte], rank uint64) weak.Pointer[[64]byte] {
	x := new([64]byte)
	c.Push(rank, x)
	return weak.Make(x)
}

// A calendar doesn't keep what removed elements point to.
func TestMemory(t *testing.T) {
	eachLevel(t, func(t *testing.T, levels int) {
		c := newCalendar[*[64]byte](t, 4, levels)
		ranks := []uint64{1 << 40, 0, 1<<40 + 1, 1}
		var l []weak.Pointer[[64]byte]
		for _, rank := range ranks {
			l = append(l, push(c, rank))
		}
		for _, n := range []uint64{0, 1, 1 << 40, 1<<40 + 1} {
			c.All()
			c.Pop()
			runtime.GC()
			for i, x := range l {
				if (x.Value() == nil) != (ranks[i] <= n) {
					t.Errorf("the element with the rank %d after those to %d were popped", ranks[i], n)
				}
			}
		}
		runtime.KeepAlive(c)
	})
}
