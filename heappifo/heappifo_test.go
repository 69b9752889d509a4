package heappifo

import (
	"cmp"
	"math"
	"runtime"
	"slices"
	"strconv"
	"testing"
	"weak"

	"pacemaker/api"
)

// newHeap makes a heap with room for so many items.
func newHeap[T any](t *testing.T, room int) *Heap[T] {
	t.Helper()
	h, err := New[T](room)
	if h == nil || err != api.OK {
		t.Fatalf("New(%d) is %v, %d", room, h, err)
	}
	return h
}

// insert adds an item behind all those in order that it comes after.
func insert[T any](l []Item[T], rank uint64, x T) []Item[T] {
	i := 0
	for i < len(l) && l[i].Rank <= rank {
		i++
	}
	return slices.Insert(l, i, Item[T]{rank, x})
}

// first returns what Peek and Pop should of items in order.
func first[T any](l []Item[T]) (uint64, T, bool) {
	if len(l) == 0 {
		var none T
		return 0, none, false
	}
	return l[0].Rank, l[0].X, true
}

func checkPush[T any](t *testing.T, h *Heap[T], rank uint64, x T, want bool) {
	t.Helper()
	if got := h.Push(rank, x); got != want {
		t.Errorf("Push(%d, %v) is %t", rank, x, got)
	}
}

// checkPop tells whether the first item of want leaves, and returns the others.
func checkPop[T comparable](t *testing.T, h *Heap[T], want []Item[T]) []Item[T] {
	t.Helper()
	rank, x, ok := first(want)
	if r, y, is := h.Pop(); r != rank || y != x || is != ok {
		t.Errorf("Pop is %d, %v, %t, not %d, %v, %t", r, y, is, rank, x, ok)
	}
	return want[min(1, len(want)):]
}

// check tells whether a heap holds want, by everything that it answers.
func check[T comparable](t *testing.T, h *Heap[T], want []Item[T]) {
	t.Helper()
	rank, x, ok := first(want)
	if r, y, is := h.Peek(); r != rank || y != x || is != ok {
		t.Errorf("Peek is %d, %v, %t, not %d, %v, %t", r, y, is, rank, x, ok)
	}
	if h.Len() != len(want) {
		t.Errorf("Len is %d, not %d", h.Len(), len(want))
	}
	if got := h.All(); !slices.Equal(got, want) {
		t.Errorf("All is %v, not %v", got, want)
	}
}

// checkEmptied tells whether the items of want leave a heap, and then nothing.
func checkEmptied[T comparable](t *testing.T, h *Heap[T], want []Item[T]) {
	t.Helper()
	for len(want) > 0 {
		want = checkPop(t, h, want)
	}
	checkPop(t, h, nil)
	check(t, h, nil)
}

// 9.1
func TestNew(t *testing.T) {
	for _, room := range []int{0, -1, api.MaxPackets + 1, 2 * api.MaxPackets, api.MaxRing, math.MinInt, math.MaxInt} {
		if h, err := New[int](room); h != nil || err != api.ErrCaps {
			t.Errorf("New(%d) is %v, %d", room, h, err)
		}
	}
	for _, room := range []int{1, 2, 3, 1000, api.MaxPackets - 1, api.MaxPackets} {
		check(t, newHeap[int](t, room), nil)
	}
}

// 9.1, the chapter's example.
func TestExample(t *testing.T) {
	h := newHeap[string](t, 3)
	checkPush(t, h, 5, "a", true)
	checkPush(t, h, 3, "b", true)
	checkPush(t, h, 5, "c", true)
	want := []Item[string]{{3, "b"}, {5, "a"}, {5, "c"}}
	check(t, h, want)
	checkEmptied(t, h, want)
}

// 9.1, with room for one item.
func TestRoomOfOne(t *testing.T) {
	h := newHeap[string](t, 1)
	for i := range 5 {
		want := []Item[string]{{uint64(10 - i), strconv.Itoa(i)}}
		checkPush(t, h, want[0].Rank, want[0].X, true)
		checkPush(t, h, 0, "less", false)
		checkPush(t, h, want[0].Rank, "equal", false)
		checkPush(t, h, api.MaxU64, "more", false)
		check(t, h, want)
		checkEmptied(t, h, want)
	}
}

// 9.1, with all the room that a heap can have.
func TestGreatestRoom(t *testing.T) {
	h := newHeap[int](t, api.MaxPackets)
	var want []Item[int]
	for i := range api.MaxPackets {
		// 1021 is a prime: the ranks go up and down, and each comes often.
		rank := uint64(i * 57 % 1021)
		checkPush(t, h, rank, i, true)
		want = insert(want, rank, i)
	}
	checkPush(t, h, 0, -1, false)
	checkPush(t, h, api.MaxU64, -1, false)
	check(t, h, want)
	for range 100 {
		want = checkPop(t, h, want)
	}
	for i := range 100 {
		checkPush(t, h, 500, -i, true)
		want = insert(want, 500, -i)
	}
	checkPush(t, h, 500, -100, false)
	check(t, h, want)
	checkEmptied(t, h, want)
}

// 9.1: what is refused, and what there is not, leaves a heap as it was.
func TestNothing(t *testing.T) {
	h := newHeap[string](t, 3)
	for range 3 {
		checkPop(t, h, nil)
		check(t, h, nil)
	}
	checkPush(t, h, 7, "a", true)
	checkPush(t, h, 9, "b", true)
	checkPush(t, h, 8, "c", true)
	want := []Item[string]{{7, "a"}, {8, "c"}, {9, "b"}}
	for _, rank := range []uint64{0, 7, 8, 9, 10, api.MaxU64} {
		checkPush(t, h, rank, "d", false)
		check(t, h, want)
	}
	checkEmptied(t, h, want)
	checkPop(t, h, nil)
	checkPush(t, h, 1, "e", true)
	check(t, h, []Item[string]{{1, "e"}})
}

// 9.1: a single item, of any rank.
func TestOne(t *testing.T) {
	for _, rank := range []uint64{0, 1, 1<<32 - 1, 1 << 32, 1<<63 - 1, 1 << 63, api.MaxU64} {
		for _, room := range []int{1, 2, 100} {
			h := newHeap[string](t, room)
			want := []Item[string]{{rank, "a"}}
			for range 3 {
				checkPush(t, h, rank, "a", true)
				check(t, h, want)
				checkEmptied(t, h, want)
			}
		}
	}
}

// 9.1: ranks are told apart over all 64 bits, and without a sign.
func TestGreatRanks(t *testing.T) {
	ranks := []uint64{api.MaxU64, 0, 1 << 63, 1<<63 - 1, api.MaxU64 - 1, 1, 1 << 32, 1<<32 - 1, 0, api.MaxU64}
	for start := range ranks {
		h := newHeap[int](t, len(ranks))
		var want []Item[int]
		for i := range ranks {
			rank := ranks[(start+i)%len(ranks)]
			checkPush(t, h, rank, i, true)
			want = insert(want, rank, i)
		}
		check(t, h, want)
		checkEmptied(t, h, want)
	}
}

// checkSorted pushes items of these ranks and tells whether they leave as a
// stable sort orders them.
func checkSorted(t *testing.T, ranks []uint64) {
	t.Helper()
	h := newHeap[int](t, max(1, len(ranks)))
	var want []Item[int]
	for i, rank := range ranks {
		checkPush(t, h, rank, i, true)
		want = append(want, Item[int]{rank, i})
	}
	slices.SortStableFunc(want, func(a, b Item[int]) int { return cmp.Compare(a.Rank, b.Rank) })
	check(t, h, want)
	checkEmptied(t, h, want)
}

// 9.2: ranks that rise, fall, go both ways, or are equal, some or all of them.
func TestStableSort(t *testing.T) {
	rules := map[string]func(i, n int) int{
		"rise":         func(i, n int) int { return i },
		"fall":         func(i, n int) int { return n - i },
		"up and down":  func(i, n int) int { return max(i, n-i) },
		"down and up":  func(i, n int) int { return min(i, n-i) },
		"by turns":     func(i, n int) int { return i % 2 * n },
		"pairs rise":   func(i, n int) int { return i / 2 },
		"pairs fall":   func(i, n int) int { return (n - i) / 2 },
		"equal":        func(i, n int) int { return 7 },
		"one is less":  func(i, n int) int { return min(1, max(i-n/2, n/2-i)) },
		"one is more":  func(i, n int) int { return n - max(i-n/2, n/2-i, 1) },
		"a few, often": func(i, n int) int { return i * i % 5 },
	}
	for name, rule := range rules {
		t.Run(name, func(t *testing.T) {
			for _, n := range []int{0, 1, 2, 3, 4, 7, 8, 9, 31, 32, 100, 1000} {
				ranks := make([]uint64, n)
				for i := range ranks {
					ranks[i] = uint64(rule(i, n))
				}
				checkSorted(t, ranks)
			}
		})
	}
}

// 9.2: all sequences of few items with few ranks.
func TestAllSequences(t *testing.T) {
	for n := range 7 {
		ranks := make([]uint64, n)
		count := int(math.Pow(4, float64(n)))
		for k := range count {
			for i := range ranks {
				ranks[i] = uint64(k >> (2 * i) & 3)
			}
			checkSorted(t, ranks)
		}
	}
}

// 9.1, with many turns, against a list in order.
func TestMany(t *testing.T) {
	for _, room := range []int{1, 2, 3, 4, 5, 7, 8, 15, 16, 64, 300} {
		for _, ranks := range []uint64{1, 2, 5, 1000, api.MaxU64} {
			h := newHeap[int](t, room)
			var want []Item[int]
			seed := uint64(room)
			for i := range 1500 {
				seed = seed*6364136223846793005 + 1442695040888963407
				rank := (seed>>32 ^ seed<<32) % ranks
				// The heap is filled and emptied by turns.
				if seed>>40%8 < uint64(3+2*(i/(3*room)%2)) {
					checkPush(t, h, rank, i, len(want) < room)
					if len(want) < room {
						want = insert(want, rank, i)
					}
				} else {
					want = checkPop(t, h, want)
				}
				check(t, h, want)
			}
			checkEmptied(t, h, want)
		}
	}
}

// 9.1: items of equal ranks stay in the order in which they came while others
// come and go.
func TestEqualAmongOthers(t *testing.T) {
	h := newHeap[int](t, 20)
	var want []Item[int]
	for i := range 200 {
		for _, rank := range []uint64{5, uint64(i % 4), 5} {
			checkPush(t, h, rank, 10*i+int(rank), len(want) < 20)
			if len(want) < 20 {
				want = insert(want, rank, 10*i+int(rank))
			}
		}
		for range 1 + i%5 {
			want = checkPop(t, h, want)
		}
		check(t, h, want)
	}
}

// 9.1, Ownership: All and Peek change nothing, and lists that were handed out
// share nothing.
func TestLists(t *testing.T) {
	h := newHeap[int](t, 6)
	for i, rank := range []uint64{4, 1, 9, 4, 0, 4} {
		checkPush(t, h, rank, i, true)
	}
	want := []Item[int]{{0, 4}, {1, 1}, {4, 0}, {4, 3}, {4, 5}, {9, 2}}
	for range 3 {
		check(t, h, want)
	}
	a, b := h.All(), h.All()
	for i := range a {
		a[i] = Item[int]{7, 7}
	}
	_ = append(a[:0], Item[int]{8, 8})
	if !slices.Equal(b, want) {
		t.Errorf("a list became %v as another one was changed", b)
	}
	check(t, h, want)
	checkEmptied(t, h, want)
	checkPush(t, h, 3, 3, true)
	if !slices.Equal(b, want) {
		t.Errorf("a list that was handed out became %v", b)
	}
	check(t, h, []Item[int]{{3, 3}})
}

// P2: heaps know nothing of each other.
func TestTwoHeaps(t *testing.T) {
	a, b := newHeap[int](t, 2), newHeap[int](t, 3)
	checkPush(t, a, 5, 1, true)
	checkPush(t, b, 5, 7, true)
	checkPush(t, b, 5, 8, true)
	checkPush(t, a, 5, 2, true)
	checkPop(t, a, []Item[int]{{5, 1}})
	check(t, a, []Item[int]{{5, 2}})
	check(t, b, []Item[int]{{5, 7}, {5, 8}})
}

// 9.1, of elements of other types.
func TestTypes(t *testing.T) {
	type pair struct{ a, b int }
	pairs := newHeap[pair](t, 2)
	checkPush(t, pairs, 2, pair{1, 2}, true)
	checkPush(t, pairs, 1, pair{3, 4}, true)
	checkEmptied(t, pairs, []Item[pair]{{1, pair{3, 4}}, {2, pair{1, 2}}})
	empties := newHeap[struct{}](t, 2)
	checkPush(t, empties, 2, struct{}{}, true)
	checkPush(t, empties, 1, struct{}{}, true)
	checkPush(t, empties, 0, struct{}{}, false)
	checkEmptied(t, empties, []Item[struct{}]{{1, struct{}{}}, {2, struct{}{}}})
	boxed := newHeap[any](t, 2)
	checkPush(t, boxed, 6, nil, true)
	check(t, boxed, []Item[any]{{6, nil}})
	checkPush(t, boxed, 6, "a", true)
	checkEmptied(t, boxed, []Item[any]{{6, nil}, {6, "a"}})
	lists := newHeap[[]int](t, 1)
	if rank, x, ok := lists.Pop(); rank != 0 || x != nil || ok {
		t.Error("Pop of no list")
	}
	checkPush(t, lists, 8, []int{5}, true)
	if rank, x, ok := lists.Pop(); rank != 8 || !slices.Equal(x, []int{5}) || !ok {
		t.Errorf("Pop is %d, %v, %t", rank, x, ok)
	}
}

// 9.1, P1: heaps that New did not make.
func TestNotMade(t *testing.T) {
	for _, h := range []*Heap[string]{nil, {}, new(Heap[string])} {
		for _, rank := range []uint64{0, 1, api.MaxU64} {
			checkPush(t, h, rank, "a", false)
			checkPop(t, h, nil)
			check(t, h, nil)
		}
	}
}

// push pushes a new element and returns a pointer that doesn't keep it.
func push(h *Heap[*[64]byte], rank uint64) weak.Pointer[[64]byte] {
	x := new([64]byte)
	h.Push(rank, x)
	return weak.Make(x)
}

// A heap doesn't keep what removed elements point to.
func TestMemory(t *testing.T) {
	h := newHeap[*[64]byte](t, 4)
	ranks := []uint64{2, 0, 3, 1}
	var l []weak.Pointer[[64]byte]
	for _, rank := range ranks {
		l = append(l, push(h, rank))
	}
	for n := range 4 {
		h.All()
		h.Pop()
		runtime.GC()
		for i, x := range l {
			if (x.Value() == nil) != (ranks[i] <= uint64(n)) {
				t.Errorf("the element with the rank %d after %d were popped", ranks[i], n+1)
			}
		}
	}
	runtime.KeepAlive(h)
}
