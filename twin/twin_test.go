package twin

import (
	"cmp"
	"math"
	"runtime"
	"slices"
	"strconv"
	"testing"
	"weak"

	"pacemaker/api"
)

// item is an element with its rank.
type item[T any] struct {
	rank uint64
	x    T
}

// newTwin makes a queue with room for so many items.
func newTwin[T any](t *testing.T, room int) *Twin[T] {
	t.Helper()
	w, err := New[T](room)
	if w == nil || err != api.OK {
		t.Fatalf("New(%d) is %v, %d", room, w, err)
	}
	return w
}

// insert adds an item behind all those in order that it comes after.
func insert[T any](l []item[T], rank uint64, x T) []item[T] {
	i := 0
	for i < len(l) && l[i].rank <= rank {
		i++
	}
	return slices.Insert(l, i, item[T]{rank, x})
}

// squeeze does to items in order what Squeeze should, and returns what it
// should.
func squeeze[T any](l []item[T], room int, rank uint64, x T) ([]item[T], T, bool) {
	l = insert(l, rank, x)
	if len(l) <= room {
		var none T
		return l, none, false
	}
	return l[:room], l[room].x, true
}

func checkPush[T any](t *testing.T, w *Twin[T], rank uint64, x T, want bool) {
	t.Helper()
	if got := w.Push(rank, x); got != want {
		t.Errorf("Push(%d, %v) is %t", rank, x, got)
	}
}

func checkSqueeze[T comparable](t *testing.T, w *Twin[T], rank uint64, x, out T, ok bool) {
	t.Helper()
	if got, is := w.Squeeze(rank, x); got != out || is != ok {
		t.Errorf("Squeeze(%d, %v) is %v, %t, not %v, %t", rank, x, got, is, out, ok)
	}
}

// checkEnd tells whether a method returns the item of want with this index, or
// nothing if there is none.
func checkEnd[T comparable](t *testing.T, name string, method func() (uint64, T, bool), want []item[T], i int) {
	t.Helper()
	var end item[T]
	ok := len(want) > 0
	if ok {
		end = want[i]
	}
	if rank, x, is := method(); rank != end.rank || x != end.x || is != ok {
		t.Errorf("%s is %d, %v, %t, not %d, %v, %t", name, rank, x, is, end.rank, end.x, ok)
	}
}

// checkPopMin tells whether the first item of want leaves, and returns the
// others.
func checkPopMin[T comparable](t *testing.T, w *Twin[T], want []item[T]) []item[T] {
	t.Helper()
	checkEnd(t, "PopMin", w.PopMin, want, 0)
	return want[min(1, len(want)):]
}

// checkPopMax tells whether the last item of want leaves, and returns the
// others.
func checkPopMax[T comparable](t *testing.T, w *Twin[T], want []item[T]) []item[T] {
	t.Helper()
	checkEnd(t, "PopMax", w.PopMax, want, len(want)-1)
	return want[:max(0, len(want)-1)]
}

// check tells whether a queue holds what want has at its ends, and as many
// items.
func check[T comparable](t *testing.T, w *Twin[T], want []item[T]) {
	t.Helper()
	checkEnd(t, "Min", w.Min, want, 0)
	checkEnd(t, "Max", w.Max, want, len(want)-1)
	if w.Len() != len(want) {
		t.Errorf("Len is %d, not %d", w.Len(), len(want))
	}
}

// ways are those in which a queue can be emptied: whether the i-th item that
// leaves is the last one in order.
func ways() []func(i int) bool {
	return []func(i int) bool{
		func(i int) bool { return false },
		func(i int) bool { return true },
		func(i int) bool { return i%2 == 1 },
		func(i int) bool { return i%2 == 0 },
		func(i int) bool { return i%3 == 1 },
		func(i int) bool { return i*i%7 > 2 },
	}
}

// checkEmptied tells whether the items of want leave a queue in this way, and
// then nothing.
func checkEmptied[T comparable](t *testing.T, w *Twin[T], want []item[T], last func(i int) bool) {
	t.Helper()
	for i := range len(want) {
		if last(i) {
			want = checkPopMax(t, w, want)
		} else {
			want = checkPopMin(t, w, want)
		}
		check(t, w, want)
	}
	checkPopMin(t, w, nil)
	checkPopMax(t, w, nil)
	check(t, w, nil)
}

// 10.1
func TestNew(t *testing.T) {
	for _, room := range []int{0, -1, api.MaxPackets + 1, 2 * api.MaxPackets, api.MaxRing, math.MinInt, math.MaxInt} {
		if w, err := New[int](room); w != nil || err != api.ErrCaps {
			t.Errorf("New(%d) is %v, %d", room, w, err)
		}
	}
	for _, room := range []int{1, 2, 3, 1000, api.MaxPackets - 1, api.MaxPackets} {
		check(t, newTwin[int](t, room), nil)
	}
}

// 10.2, the chapter's example.
func TestExample(t *testing.T) {
	w := newTwin[string](t, 2)
	checkPush(t, w, 5, "a", true)
	checkPush(t, w, 3, "b", true)
	checkSqueeze(t, w, 4, "c", "a", true)
	checkSqueeze(t, w, 4, "d", "d", true)
	checkEmptied(t, w, []item[string]{{3, "b"}, {4, "c"}}, ways()[0])
}

// 10.1, 10.2, with room for one item.
func TestRoomOfOne(t *testing.T) {
	w := newTwin[string](t, 1)
	for _, last := range ways() {
		checkSqueeze(t, w, 7, "a", "", false)
		checkPush(t, w, 0, "less", false)
		checkPush(t, w, 7, "equal", false)
		checkPush(t, w, api.MaxU64, "more", false)
		check(t, w, []item[string]{{7, "a"}})
		checkSqueeze(t, w, 8, "more", "more", true)
		checkSqueeze(t, w, 7, "equal", "equal", true)
		check(t, w, []item[string]{{7, "a"}})
		checkSqueeze(t, w, 6, "less", "a", true)
		check(t, w, []item[string]{{6, "less"}})
		checkEmptied(t, w, []item[string]{{6, "less"}}, last)
	}
}

// 10.1, 10.2, with all the room that a queue can have.
func TestGreatestRoom(t *testing.T) {
	for _, last := range ways() {
		w := newTwin[int](t, api.MaxPackets)
		var want []item[int]
		for i := range api.MaxPackets {
			// 1021 is a prime: the ranks go up and down, and each comes often.
			rank := uint64(i * 57 % 1021)
			checkPush(t, w, rank, i, true)
			want = insert(want, rank, i)
		}
		checkPush(t, w, 0, -1, false)
		checkPush(t, w, api.MaxU64, -1, false)
		checkSqueeze(t, w, 1020, -1, -1, true)
		check(t, w, want)
		for i := range 100 {
			out := want[len(want)-1].x
			checkSqueeze(t, w, 500, -i, out, true)
			want = insert(want[:len(want)-1], 500, -i)
		}
		checkEmptied(t, w, want, last)
	}
}

// 10.1: what is refused, and what there is not, leaves a queue as it was.
func TestNothing(t *testing.T) {
	for _, last := range ways() {
		w := newTwin[string](t, 3)
		for range 3 {
			checkEmptied(t, w, nil, last)
		}
		checkPush(t, w, 7, "a", true)
		checkPush(t, w, 9, "b", true)
		checkPush(t, w, 8, "c", true)
		want := []item[string]{{7, "a"}, {8, "c"}, {9, "b"}}
		for _, rank := range []uint64{0, 7, 8, 9, 10, api.MaxU64} {
			checkPush(t, w, rank, "d", false)
			check(t, w, want)
		}
		checkEmptied(t, w, want, last)
		checkPush(t, w, 1, "e", true)
		check(t, w, []item[string]{{1, "e"}})
	}
}

// 10.1: a single item, of any rank, is at both ends.
func TestOne(t *testing.T) {
	for _, rank := range []uint64{0, 1, 1<<32 - 1, 1 << 32, 1<<63 - 1, 1 << 63, api.MaxU64} {
		for _, room := range []int{1, 2, 100} {
			w := newTwin[string](t, room)
			want := []item[string]{{rank, "a"}}
			for _, last := range ways() {
				checkPush(t, w, rank, "a", true)
				check(t, w, want)
				checkEmptied(t, w, want, last)
			}
		}
	}
}

// 10.1: ranks are told apart over all 64 bits, and without a sign.
func TestGreatRanks(t *testing.T) {
	ranks := []uint64{api.MaxU64, 0, 1 << 63, 1<<63 - 1, api.MaxU64 - 1, 1, 1 << 32, 1<<32 - 1, 0, api.MaxU64}
	for start := range ranks {
		for _, last := range ways() {
			w := newTwin[int](t, len(ranks))
			var want []item[int]
			for i := range ranks {
				rank := ranks[(start+i)%len(ranks)]
				checkPush(t, w, rank, i, true)
				want = insert(want, rank, i)
				check(t, w, want)
			}
			checkEmptied(t, w, want, last)
		}
	}
}

// checkSorted pushes items of these ranks and tells whether they leave as a
// stable sort orders them, in each of the ways.
func checkSorted(t *testing.T, ranks []uint64) {
	t.Helper()
	var want []item[int]
	for i, rank := range ranks {
		want = append(want, item[int]{rank, i})
	}
	slices.SortStableFunc(want, func(a, b item[int]) int { return cmp.Compare(a.rank, b.rank) })
	for _, last := range ways() {
		w := newTwin[int](t, max(1, len(ranks)))
		for i, rank := range ranks {
			checkPush(t, w, rank, i, true)
		}
		check(t, w, want)
		checkEmptied(t, w, want, last)
	}
}

// rules are the ranks of n items: they rise, fall, go both ways, or are equal,
// some or all of them.
func rules() map[string]func(i, n int) int {
	return map[string]func(i, n int) int{
		"rise":         func(i, n int) int { return i },
		"fall":         func(i, n int) int { return n - i },
		"up and down":  func(i, n int) int { return max(i, n-i) },
		"down and up":  func(i, n int) int { return min(i, n-i) },
		"by turns":     func(i, n int) int { return i % 2 * n },
		"pairs rise":   func(i, n int) int { return i / 2 },
		"pairs fall":   func(i, n int) int { return (n - i) / 2 },
		"equal":        func(i, n int) int { return 7 },
		"one is less":  func(i, n int) int { return min(1, max(i-n/2, n/2-i)) },
		"one is more":  func(i, n int) int { return n - max(i-n/2, n/2-i, 1) },
		"a few, often": func(i, n int) int { return i * i % 5 },
	}
}

// 10.1
func TestStableSort(t *testing.T) {
	for name, rule := range rules() {
		t.Run(name, func(t *testing.T) {
			for _, n := range []int{0, 1, 2, 3, 4, 7, 8, 9, 31, 32, 100, 1000} {
				ranks := make([]uint64, n)
				for i := range ranks {
					ranks[i] = uint64(rule(i, n))
				}
				checkSorted(t, ranks)
			}
		})
	}
}

// 10.1: all sequences of few items with few ranks.
func TestAllSequences(t *testing.T) {
	for n := range 7 {
		ranks := make([]uint64, n)
		count := int(math.Pow(4, float64(n)))
		for k := range count {
			for i := range ranks {
				ranks[i] = uint64(k >> (2 * i) & 3)
			}
			checkSorted(t, ranks)
		}
	}
}

// checkOperations does with a queue, and with a list in order, what these bits
// say: three for each operation.
func checkOperations(t *testing.T, room, count, bits int) {
	t.Helper()
	w := newTwin[int](t, room)
	var want []item[int]
	for i := range count {
		rank := uint64(bits >> (3 * i) & 1)
		switch bits >> (3*i + 1) & 3 {
		case 0:
			checkPush(t, w, rank, i, len(want) < room)
			if len(want) < room {
				want = insert(want, rank, i)
			}
		case 1:
			var out int
			var ok bool
			want, out, ok = squeeze(want, room, rank, i)
			checkSqueeze(t, w, rank, i, out, ok)
		case 2:
			want = checkPopMin(t, w, want)
		case 3:
			want = checkPopMax(t, w, want)
		}
		check(t, w, want)
	}
	checkEmptied(t, w, want, ways()[bits%len(ways())])
}

// 10.1, 10.2: all sequences of few operations, with little room.
func TestAllOperations(t *testing.T) {
	const count = 5
	for room := 1; room <= 3; room++ {
		for bits := range 1 << (3 * count) {
			checkOperations(t, room, count, bits)
		}
	}
}

// 10.1, 10.2, with many turns, against a list in order.
func TestMany(t *testing.T) {
	for _, room := range []int{1, 2, 3, 4, 5, 7, 8, 15, 16, 64, 300} {
		for _, ranks := range []uint64{1, 2, 5, 1000, api.MaxU64} {
			for kind := range 4 {
				checkTurns(t, room, ranks, kind)
			}
		}
	}
}

// checkTurns fills and empties a queue by turns. The kind tells at which end
// items leave: at the first, the last, either, or either with Squeeze for Push.
func checkTurns(t *testing.T, room int, ranks uint64, kind int) {
	t.Helper()
	w := newTwin[int](t, room)
	var want []item[int]
	seed := uint64(room)
	for i := range 1500 {
		seed = seed*6364136223846793005 + 1442695040888963407
		rank := (seed>>32 ^ seed<<32) % ranks
		comes := seed>>40%8 < uint64(3+2*(i/(3*room)%2))
		switch {
		case comes && kind == 3:
			var out int
			var ok bool
			want, out, ok = squeeze(want, room, rank, i)
			checkSqueeze(t, w, rank, i, out, ok)
		case comes:
			checkPush(t, w, rank, i, len(want) < room)
			if len(want) < room {
				want = insert(want, rank, i)
			}
		case kind == 0 || kind > 1 && seed>>50&1 == 0:
			want = checkPopMin(t, w, want)
		default:
			want = checkPopMax(t, w, want)
		}
		check(t, w, want)
	}
	checkEmptied(t, w, want, ways()[kind])
}

// 10.2: with room, Squeeze is Push.
func TestSqueezeWithRoom(t *testing.T) {
	for _, last := range ways() {
		w := newTwin[int](t, 8)
		var want []item[int]
		for i, rank := range []uint64{5, api.MaxU64, 0, 5, 9, 0, api.MaxU64, 5} {
			checkSqueeze(t, w, rank, i+1, 0, false)
			want = insert(want, rank, i+1)
			check(t, w, want)
		}
		checkEmptied(t, w, want, last)
	}
}

// 10.2: without room, Squeeze depends on the greatest rank alone, and takes
// from it what came last.
func TestSqueezeWithoutRoom(t *testing.T) {
	full := []item[string]{{2, "a"}, {5, "b"}, {5, "c"}, {8, "d"}, {8, "e"}}
	for rank, want := range map[uint64][]item[string]{
		0:          {{0, "x"}, {2, "a"}, {5, "b"}, {5, "c"}, {8, "d"}},
		2:          {{2, "a"}, {2, "x"}, {5, "b"}, {5, "c"}, {8, "d"}},
		5:          {{2, "a"}, {5, "b"}, {5, "c"}, {5, "x"}, {8, "d"}},
		7:          {{2, "a"}, {5, "b"}, {5, "c"}, {7, "x"}, {8, "d"}},
		8:          full,
		9:          full,
		api.MaxU64: full,
	} {
		for _, last := range ways() {
			w := newTwin[string](t, len(full))
			for _, x := range full {
				checkPush(t, w, x.rank, x.x, true)
			}
			out := "e"
			if rank >= 8 {
				out = "x"
			}
			checkSqueeze(t, w, rank, "x", out, true)
			checkEmptied(t, w, want, last)
		}
	}
}

// 10.2: among the ranks 0 and 2^64 - 1.
func TestSqueezeAtTheEnds(t *testing.T) {
	w := newTwin[string](t, 2)
	checkPush(t, w, api.MaxU64, "a", true)
	checkPush(t, w, api.MaxU64, "b", true)
	checkSqueeze(t, w, api.MaxU64, "c", "c", true)
	checkSqueeze(t, w, api.MaxU64-1, "d", "b", true)
	checkSqueeze(t, w, 0, "e", "a", true)
	checkSqueeze(t, w, 0, "f", "d", true)
	checkSqueeze(t, w, 0, "g", "g", true)
	checkEmptied(t, w, []item[string]{{0, "e"}, {0, "f"}}, ways()[0])
}

// 10.3: items leave from one end in the reverse of the order of the other.
func TestReverse(t *testing.T) {
	for name, rule := range rules() {
		t.Run(name, func(t *testing.T) {
			const n = 50
			a, b := newTwin[int](t, n), newTwin[int](t, n)
			for i := range n {
				checkPush(t, a, uint64(rule(i, n)), i, true)
				checkPush(t, b, uint64(rule(i, n)), i, true)
			}
			var up, down []item[int]
			for range n {
				rank, x, _ := a.PopMin()
				up = append(up, item[int]{rank, x})
				rank, x, _ = b.PopMax()
				down = append(down, item[int]{rank, x})
			}
			slices.Reverse(down)
			if !slices.Equal(up, down) {
				t.Errorf("from one end %v leave, from the other, reversed, %v", up, down)
			}
		})
	}
}

// 10.4: after Squeezes, the first items in order remain, and all others came
// out, each once.
func TestRemaining(t *testing.T) {
	for name, rule := range rules() {
		t.Run(name, func(t *testing.T) {
			for _, n := range []int{1, 2, 3, 10, 100, 500} {
				for _, room := range []int{1, 2, 3, 6, 7, 8, 99, 100, 101} {
					checkRemaining(t, room, n, rule)
				}
			}
		})
	}
}

func checkRemaining(t *testing.T, room, n int, rule func(i, n int) int) {
	t.Helper()
	w := newTwin[int](t, room)
	var want []item[int]
	var outs []int
	for i := range n {
		rank := uint64(rule(i, n))
		want = append(want, item[int]{rank, i})
		if out, ok := w.Squeeze(rank, i); ok {
			outs = append(outs, out)
		}
	}
	slices.SortStableFunc(want, func(a, b item[int]) int { return cmp.Compare(a.rank, b.rank) })
	remain := min(room, n)
	var others []int
	for _, x := range want[remain:] {
		others = append(others, x.x)
	}
	slices.Sort(others)
	slices.Sort(outs)
	if !slices.Equal(outs, others) {
		t.Errorf("room %d: %v came out, not %v", room, outs, others)
	}
	checkEmptied(t, w, want[:remain], ways()[n%2])
}

// 10.1: items of equal ranks stay in the order in which they came while others
// come and go.
func TestEqualAmongOthers(t *testing.T) {
	w := newTwin[string](t, 20)
	var want []item[string]
	for i := range 200 {
		for _, rank := range []uint64{5, uint64(i % 10), 5} {
			x := strconv.Itoa(10*i + int(rank))
			checkPush(t, w, rank, x, len(want) < 20)
			if len(want) < 20 {
				want = insert(want, rank, x)
			}
		}
		for k := range 1 + i%5 {
			if (i+k)%3 == 0 {
				want = checkPopMax(t, w, want)
			} else {
				want = checkPopMin(t, w, want)
			}
		}
		check(t, w, want)
	}
}

// P2: queues know nothing of each other, and Min and Max change nothing.
func TestTwoTwins(t *testing.T) {
	a, b := newTwin[int](t, 2), newTwin[int](t, 3)
	checkPush(t, a, 5, 1, true)
	checkPush(t, b, 5, 7, true)
	checkPush(t, b, 5, 8, true)
	checkPush(t, a, 5, 2, true)
	checkPopMin(t, a, []item[int]{{5, 1}})
	for range 3 {
		check(t, a, []item[int]{{5, 2}})
		check(t, b, []item[int]{{5, 7}, {5, 8}})
	}
}

// 10.1, 10.2, of elements of other types.
func TestTypes(t *testing.T) {
	type pair struct{ a, b int }
	pairs := newTwin[pair](t, 2)
	checkPush(t, pairs, 2, pair{1, 2}, true)
	checkPush(t, pairs, 3, pair{3, 4}, true)
	checkSqueeze(t, pairs, 1, pair{5, 6}, pair{3, 4}, true)
	checkEmptied(t, pairs, []item[pair]{{1, pair{5, 6}}, {2, pair{1, 2}}}, ways()[1])
	empties := newTwin[struct{}](t, 1)
	checkPush(t, empties, 2, struct{}{}, true)
	checkPush(t, empties, 2, struct{}{}, false)
	checkSqueeze(t, empties, 1, struct{}{}, struct{}{}, true)
	checkEmptied(t, empties, []item[struct{}]{{1, struct{}{}}}, ways()[0])
	boxed := newTwin[any](t, 2)
	checkPush(t, boxed, 6, nil, true)
	check(t, boxed, []item[any]{{6, nil}})
	checkPush(t, boxed, 6, "a", true)
	checkSqueeze[any](t, boxed, 6, "b", "b", true)
	checkEmptied(t, boxed, []item[any]{{6, nil}, {6, "a"}}, ways()[1])
	lists := newTwin[[]int](t, 1)
	if rank, x, ok := lists.PopMax(); rank != 0 || x != nil || ok {
		t.Error("PopMax of no list")
	}
	if x, ok := lists.Squeeze(8, []int{5}); x != nil || ok {
		t.Errorf("Squeeze is %v, %t", x, ok)
	}
	if rank, x, ok := lists.PopMin(); rank != 8 || !slices.Equal(x, []int{5}) || !ok {
		t.Errorf("PopMin is %d, %v, %t", rank, x, ok)
	}
}

// 10.2, P1: queues that New did not make.
func TestNotMade(t *testing.T) {
	for _, w := range []*Twin[string]{nil, {}, new(Twin[string])} {
		for _, rank := range []uint64{0, 1, api.MaxU64} {
			checkPush(t, w, rank, "a", false)
			checkSqueeze(t, w, rank, "b", "b", true)
			checkEmptied(t, w, nil, ways()[0])
		}
	}
}

// push pushes a new element and returns a pointer that doesn't keep it.
func push(w *Twin[*[64]byte], rank uint64) weak.Pointer[[64]byte] {
	x := new([64]byte)
	w.Push(rank, x)
	return weak.Make(x)
}

// checkGone tells whether of these elements exactly those with such indexes are
// kept no more.
func checkGone(t *testing.T, l []weak.Pointer[[64]byte], gone []int) {
	t.Helper()
	runtime.GC()
	for i, x := range l {
		if (x.Value() == nil) != slices.Contains(gone, i) {
			t.Errorf("element %d after %v were removed", i, gone)
		}
	}
}

// A queue doesn't keep what removed elements point to.
func TestMemory(t *testing.T) {
	ranks := []uint64{2, 0, 4, 1, 3}
	for _, last := range ways() {
		w := newTwin[*[64]byte](t, len(ranks))
		var l []weak.Pointer[[64]byte]
		var order []item[int]
		for i, rank := range ranks {
			l = append(l, push(w, rank))
			order = insert(order, rank, i)
		}
		var gone []int
		for i := range ranks {
			checkGone(t, l, gone)
			end := 0
			if last(i) {
				end = len(order) - 1
				w.PopMax()
			} else {
				w.PopMin()
			}
			gone = append(gone, order[end].x)
			order = slices.Delete(order, end, end+1)
		}
		checkGone(t, l, gone)
		runtime.KeepAlive(w)
	}
}

// Squeeze doesn't keep what it removes, nor what it refuses.
func TestMemoryOfSqueeze(t *testing.T) {
	w := newTwin[*[64]byte](t, 2)
	l := []weak.Pointer[[64]byte]{push(w, 5), push(w, 6)}
	refused := new([64]byte)
	l = append(l, weak.Make(refused))
	w.Squeeze(6, refused)
	checkGone(t, l, []int{2})
	w.Squeeze(4, nil)
	checkGone(t, l, []int{1, 2})
	w.Squeeze(4, nil)
	checkGone(t, l, []int{0, 1, 2})
	runtime.KeepAlive(w)
}
