package sppifo

import (
	"math"
	"runtime"
	"slices"
	"strconv"
	"testing"
	"weak"

	"pacemaker/api"
	"pacemaker/heappifo"
)

// item is an element with its rank.
type item[T any] = heappifo.Item[T]

// of returns the item of an element and its rank.
func of[T any](rank uint64, x T) item[T] {
	return item[T]{Rank: rank, X: x}
}

// newQueues makes n queues with room for so many items.
func newQueues[T any](t *testing.T, room, n int) *Queues[T] {
	t.Helper()
	s, err := New[T](room, n)
	if s == nil || err != api.OK {
		t.Fatalf("New(%d, %d) is %v, %d", room, n, s, err)
	}
	return s
}

// model is what queues should hold.
type model[T any] struct {
	bounds []uint64
	queues [][]item[T]
}

// empty returns what n new queues should hold.
func empty[T any](n int) model[T] {
	return model[T]{make([]uint64, n), make([][]item[T], n)}
}

// push does what Push should, if there is room, and returns the queue.
func (m *model[T]) push(rank uint64, x T) int {
	at := -1
	for i, b := range m.bounds {
		if b <= rank {
			at = i
		}
	}
	if at >= 0 {
		m.bounds[at] = rank
	} else {
		at = 0
		by := m.bounds[0] - rank
		for i, b := range m.bounds {
			m.bounds[i] = b - by
		}
	}
	m.queues[at] = append(m.queues[at], of(rank, x))
	return at
}

// items returns all items, in the order in which they leave.
func (m *model[T]) items() []item[T] {
	return slices.Concat(m.queues...)
}

// pop removes what Pop should, and returns it.
func (m *model[T]) pop() (uint64, T, bool) {
	rank, x, ok := first(m.items())
	for i, q := range m.queues {
		if len(q) > 0 {
			m.queues[i] = q[1:]
			break
		}
	}
	return rank, x, ok
}

// first returns what Peek and Pop should of items in the order in which they
// leave.
func first[T any](l []item[T]) (uint64, T, bool) {
	if len(l) == 0 {
		var none T
		return 0, none, false
	}
	return l[0].Rank, l[0].X, true
}

// checkPush tells whether Push puts an item into this queue.
func checkPush[T any](t *testing.T, s *Queues[T], rank uint64, x T, want int) {
	t.Helper()
	if got, ok := s.Push(rank, x); got != want || !ok {
		t.Fatalf("Push(%d, %v) is %d, %t, not %d", rank, x, got, ok, want)
	}
}

// checkFull tells whether there is no room for an item.
func checkFull[T any](t *testing.T, s *Queues[T], rank uint64, x T) {
	t.Helper()
	if got, ok := s.Push(rank, x); got != 0 || ok {
		t.Fatalf("Push(%d, %v) is %d, %t", rank, x, got, ok)
	}
}

// checkPop tells whether that leaves which should.
func checkPop[T comparable](t *testing.T, s *Queues[T], want *model[T]) {
	t.Helper()
	rank, x, ok := want.pop()
	if r, y, is := s.Pop(); r != rank || y != x || is != ok {
		t.Fatalf("Pop is %d, %v, %t, not %d, %v, %t", r, y, is, rank, x, ok)
	}
}

// check tells whether queues hold want, by everything that they answer.
func check[T comparable](t *testing.T, s *Queues[T], want model[T]) {
	t.Helper()
	items := want.items()
	rank, x, ok := first(items)
	if r, y, is := s.Peek(); r != rank || y != x || is != ok {
		t.Fatalf("Peek is %d, %v, %t, not %d, %v, %t", r, y, is, rank, x, ok)
	}
	if s.Len() != len(items) {
		t.Fatalf("Len is %d, not %d", s.Len(), len(items))
	}
	if got := s.Bounds(); !slices.Equal(got, want.bounds) {
		t.Fatalf("Bounds is %v, not %v", got, want.bounds)
	}
	for i, q := range want.queues {
		if got := s.Queue(i); !slices.Equal(got, q) {
			t.Fatalf("Queue(%d) is %v, not %v", i, got, q)
		}
	}
	n := len(want.queues)
	for _, i := range []int{-1, n, n + 1, api.MaxQueues, math.MinInt, math.MaxInt} {
		if got := s.Queue(i); len(got) > 0 && (i < 0 || i >= n) {
			t.Fatalf("Queue(%d) is %v", i, got)
		}
	}
}

// checkEmptied tells whether the items of want leave, and then nothing, while
// all bounds stay.
func checkEmptied[T comparable](t *testing.T, s *Queues[T], want model[T]) {
	t.Helper()
	for range want.items() {
		checkPop(t, s, &want)
		check(t, s, want)
	}
	checkPop(t, s, &want)
	check(t, s, want)
}

// 12.1
func TestNew(t *testing.T) {
	noQueues := []int{0, -1, api.MaxQueues + 1, 2 * api.MaxQueues, math.MinInt, math.MaxInt}
	someQueues := []int{1, 2, 3, api.MaxQueues - 1, api.MaxQueues}
	for _, room := range []int{0, -1, api.MaxPackets + 1, 2 * api.MaxPackets, api.MaxRing, math.MinInt, math.MaxInt} {
		for _, n := range append(noQueues, someQueues...) {
			if s, err := New[int](room, n); s != nil || err != api.ErrCaps {
				t.Errorf("New(%d, %d) is %v, %d", room, n, s, err)
			}
		}
	}
	for _, room := range []int{1, 2, 3, 1000, api.MaxPackets - 1, api.MaxPackets} {
		for _, n := range noQueues {
			if s, err := New[int](room, n); s != nil || err != api.ErrQueues {
				t.Errorf("New(%d, %d) is %v, %d", room, n, s, err)
			}
		}
		for _, n := range someQueues {
			check(t, newQueues[int](t, room, n), empty[int](n))
		}
	}
}

// 12.2, the chapter's example, and the second one of the document.
func TestExample(t *testing.T) {
	s := newQueues[string](t, 3, 2)
	checkPush(t, s, 10, "a", 1)
	checkPush(t, s, 20, "b", 1)
	checkPush(t, s, 10, "c", 0)
	want := model[string]{[]uint64{10, 20}, [][]item[string]{{of(10, "c")}, {of(10, "a"), of(20, "b")}}}
	check(t, s, want)
	checkEmptied(t, s, want)
}

// step is a Push: into which queue it should put its item, and which bounds
// there should be behind it.
type step struct {
	rank   uint64
	at     int
	bounds []uint64
}

// 12.2: bounds behind each Push, worked out by hand.
func TestPush(t *testing.T) {
	const most = api.MaxU64
	tests := map[string][]step{
		"one queue": {
			{5, 0, []uint64{5}}, {9, 0, []uint64{9}}, {9, 0, []uint64{9}}, {2, 0, []uint64{2}},
			{0, 0, []uint64{0}}, {most, 0, []uint64{most}}, {0, 0, []uint64{0}}},
		"pushed up": {
			{4, 2, []uint64{0, 0, 4}}, {4, 2, []uint64{0, 0, 4}}, {7, 2, []uint64{0, 0, 7}},
			{6, 1, []uint64{0, 6, 7}}, {5, 0, []uint64{5, 6, 7}}, {7, 2, []uint64{5, 6, 7}},
			{6, 1, []uint64{5, 6, 7}}, {5, 0, []uint64{5, 6, 7}}, {9, 2, []uint64{5, 6, 9}}},
		"pushed down": {
			{30, 2, []uint64{0, 0, 30}}, {20, 1, []uint64{0, 20, 30}}, {10, 0, []uint64{10, 20, 30}},
			{9, 0, []uint64{9, 19, 29}}, {4, 0, []uint64{4, 14, 24}}, {0, 0, []uint64{0, 10, 20}},
			{0, 0, []uint64{0, 10, 20}}, {10, 1, []uint64{0, 10, 20}}, {9, 0, []uint64{9, 10, 20}},
			{8, 0, []uint64{8, 9, 19}}},
		"equal bounds": {
			{3, 3, []uint64{0, 0, 0, 3}}, {2, 2, []uint64{0, 0, 2, 3}}, {2, 2, []uint64{0, 0, 2, 3}},
			{1, 1, []uint64{0, 1, 2, 3}}, {1, 1, []uint64{0, 1, 2, 3}}, {0, 0, []uint64{0, 1, 2, 3}},
			{2, 2, []uint64{0, 1, 2, 3}}, {0, 0, []uint64{0, 1, 2, 3}}, {1, 1, []uint64{0, 1, 2, 3}}},
		"least ranks": {
			{0, 2, []uint64{0, 0, 0}}, {0, 2, []uint64{0, 0, 0}}, {1, 2, []uint64{0, 0, 1}},
			{0, 1, []uint64{0, 0, 1}}, {0, 1, []uint64{0, 0, 1}}},
		"greatest ranks": {
			{most, 1, []uint64{0, most}}, {most, 1, []uint64{0, most}}, {most - 1, 0, []uint64{most - 1, most}},
			{most, 1, []uint64{most - 1, most}}, {most - 1, 0, []uint64{most - 1, most}},
			{0, 0, []uint64{0, 1}}, {most, 1, []uint64{0, most}}, {1 << 63, 0, []uint64{1 << 63, most}},
			{1<<63 - 1, 0, []uint64{1<<63 - 1, most - 1}}, {0, 0, []uint64{0, 1<<63 - 1}}},
	}
	for name, steps := range tests {
		t.Run(name, func(t *testing.T) {
			n := len(steps[0].bounds)
			s, want := newQueues[int](t, len(steps), n), empty[int](n)
			for i, step := range steps {
				checkPush(t, s, step.rank, i, step.at)
				want.bounds = step.bounds
				want.queues[step.at] = append(want.queues[step.at], of(step.rank, i))
				check(t, s, want)
			}
			checkFull(t, s, 0, -1)
			checkFull(t, s, most, -1)
			check(t, s, want)
			checkEmptied(t, s, want)
		})
	}
}

// 12.2: a rank below all bounds where these are equal.
func TestBelowEqualBounds(t *testing.T) {
	s := newQueues[string](t, 9, 3)
	if err := s.Lay([]uint64{7, 7, 7}, make([][]item[string], 3)); err != api.OK {
		t.Fatalf("Lay is %d", err)
	}
	want := empty[string](3)
	checkPush(t, s, 7, "a", 2)
	want.bounds, want.queues[2] = []uint64{7, 7, 7}, []item[string]{of(7, "a")}
	check(t, s, want)
	checkPush(t, s, 6, "b", 0)
	want.bounds, want.queues[0] = []uint64{6, 6, 6}, []item[string]{of(6, "b")}
	check(t, s, want)
	checkPush(t, s, 8, "c", 2)
	want.bounds, want.queues[2] = []uint64{6, 6, 8}, append(want.queues[2], of(8, "c"))
	check(t, s, want)
	checkPush(t, s, 7, "d", 1)
	want.bounds, want.queues[1] = []uint64{6, 7, 8}, []item[string]{of(7, "d")}
	check(t, s, want)
	checkEmptied(t, s, want)
}

// 12.1, 12.2, with room for one item.
func TestRoomOfOne(t *testing.T) {
	for _, n := range []int{1, 2, api.MaxQueues} {
		s, want := newQueues[string](t, 1, n), empty[string](n)
		for i, rank := range []uint64{5, 9, 0, api.MaxU64, 9, 9, 0} {
			x := strconv.Itoa(i)
			checkPush(t, s, rank, x, want.push(rank, x))
			checkFull(t, s, 0, "less")
			checkFull(t, s, rank, "equal")
			checkFull(t, s, api.MaxU64, "more")
			check(t, s, want)
			checkPop(t, s, &want)
			check(t, s, want)
		}
	}
}

// 12.1, 12.2, with all the room that queues can have: in one of them, or in all
// together.
func TestGreatestRoom(t *testing.T) {
	for _, n := range []int{1, 2, api.MaxQueues} {
		for _, ranks := range []uint64{1, 1021} {
			s, want := newQueues[int](t, api.MaxPackets, n), empty[int](n)
			for i := range api.MaxPackets {
				rank := uint64(i) * 57 % ranks
				checkPush(t, s, rank, i, want.push(rank, i))
			}
			checkFull(t, s, 0, -1)
			checkFull(t, s, api.MaxU64, -1)
			check(t, s, want)
			for i := range 100 {
				checkPop(t, s, &want)
				checkPush(t, s, 500, -i, want.push(500, -i))
				checkFull(t, s, 500, -100)
			}
			check(t, s, want)
			for range api.MaxPackets {
				checkPop(t, s, &want)
			}
			check(t, s, want)
		}
	}
}

// 12.3: what there is not leaves queues as they were.
func TestNothing(t *testing.T) {
	s, want := newQueues[string](t, 3, 2), empty[string](2)
	for range 3 {
		checkPop(t, s, &want)
		check(t, s, want)
	}
	checkPush(t, s, 7, "a", want.push(7, "a"))
	checkEmptied(t, s, want)
	checkPop(t, s, &want)
	checkPush(t, s, 1, "b", 0)
	check(t, s, model[string]{[]uint64{1, 7}, [][]item[string]{{of(1, "b")}, nil}})
}

// checkTurns does as the digits of k to base 5 say: a 4 is a Pop, another digit
// a Push of the rank with this index.
func checkTurns(t *testing.T, ranks [4]uint64, n, turns, k int) {
	t.Helper()
	s, want := newQueues[int](t, turns, n), empty[int](n)
	for i := range turns {
		if turn := k % 5; turn < len(ranks) {
			checkPush(t, s, ranks[turn], i, want.push(ranks[turn], i))
		} else {
			checkPop(t, s, &want)
		}
		check(t, s, want)
		k /= 5
	}
	checkEmptied(t, s, want)
}

// 12.2, 12.3: all sequences of few pushes of few ranks, and of pops among them.
func TestAllSequences(t *testing.T) {
	for _, n := range []int{1, 2, 3} {
		for _, ranks := range [][4]uint64{{0, 1, 2, 3}, {3, 5, 10, 20}, {0, 1, api.MaxU64 - 1, api.MaxU64}} {
			const turns = 5
			for k := range int(math.Pow(5, turns)) {
				checkTurns(t, ranks, n, turns, k)
			}
		}
	}
}

// 12.2, 12.3, 12.5, with many turns.
func TestMany(t *testing.T) {
	for _, n := range []int{1, 2, 3, 4, 8, 31, api.MaxQueues} {
		for _, room := range []int{1, 2, 7, 64} {
			for _, ranks := range []uint64{1, 2, 5, 1000, api.MaxU64} {
				s, want := newQueues[int](t, room, n), empty[int](n)
				seed := uint64(room + n)
				for i := range 500 {
					seed = seed*6364136223846793005 + 1442695040888963407
					rank := (seed>>32 ^ seed<<32) % ranks
					switch {
					// They are filled and emptied by turns.
					case seed>>40%8 >= uint64(3+2*(i/(3*room)%2)):
						checkPop(t, s, &want)
					case s.Len() == room:
						checkFull(t, s, rank, i)
					default:
						checkPush(t, s, rank, i, want.push(rank, i))
					}
					check(t, s, want)
					if !slices.IsSorted(s.Bounds()) {
						t.Fatalf("Bounds is %v", s.Bounds())
					}
				}
			}
		}
	}
}

// checkOrder tells whether items of these ranks leave in the order in which
// they came, if every so many pushes one leaves, and then all of them.
func checkOrder(t *testing.T, n int, ranks []uint64, every int) {
	t.Helper()
	s := newQueues[int](t, len(ranks), n)
	left := 0
	leave := func() {
		if rank, x, ok := s.Pop(); rank != ranks[left] || x != left || !ok {
			t.Fatalf("Pop is %d, %d, %t, not %d, %d", rank, x, ok, ranks[left], left)
		}
		left++
	}
	for i, rank := range ranks {
		if _, ok := s.Push(rank, i); !ok {
			t.Fatalf("Push(%d, %d) is false", rank, i)
		}
		if i%every == 0 {
			leave()
		}
	}
	for left < len(ranks) {
		leave()
	}
}

// 12.6
func TestRanksThatNeverDecrease(t *testing.T) {
	rules := []func(i int) uint64{
		func(i int) uint64 { return 0 },
		func(i int) uint64 { return 7 },
		func(i int) uint64 { return uint64(i) },
		func(i int) uint64 { return uint64(i / 3) },
		func(i int) uint64 { return uint64(i * i) },
		func(i int) uint64 { return 1 << (i / 4) },
		func(i int) uint64 { return api.MaxU64 - 200 + uint64(i) },
		func(i int) uint64 { return api.MaxU64 },
	}
	for _, rule := range rules {
		ranks := make([]uint64, 200)
		for i := range ranks {
			ranks[i] = rule(i)
		}
		for _, n := range []int{1, 2, 3, 8, api.MaxQueues} {
			for every := 1; every < 5; every++ {
				checkOrder(t, n, ranks, every)
			}
		}
	}
}

// 12.7, and the third example of the document.
func TestOneQueue(t *testing.T) {
	checkOrder(t, 1, []uint64{20, 10}, 2)
	checkOrder(t, 1, []uint64{0, api.MaxU64, 0, 1, api.MaxU64, 1 << 63, 0}, 3)
	ranks := make([]uint64, 1000)
	for i := range ranks {
		ranks[i] = uint64(i) * 57 % 101 << (i % 50)
	}
	for every := 1; every < 5; every++ {
		checkOrder(t, 1, ranks, every)
	}
}

// 12.3, Ownership: lists that were handed out share nothing with the queues,
// and looking changes nothing.
func TestLists(t *testing.T) {
	s, want := newQueues[int](t, 6, 2), empty[int](2)
	for i, rank := range []uint64{4, 9, 2, 9, 3} {
		checkPush(t, s, rank, i, want.push(rank, i))
	}
	for range 3 {
		check(t, s, want)
	}
	bounds, other := s.Bounds(), s.Bounds()
	bounds[0], bounds[1] = 77, 5
	if !slices.Equal(other, want.bounds) {
		t.Errorf("a list became %v as another one was changed", other)
	}
	for q := range 2 {
		a, b := s.Queue(q), s.Queue(q)
		for i := range a {
			a[i] = of(7, 7)
		}
		_ = append(a[:0], of(8, 8))
		if !slices.Equal(b, want.queues[q]) {
			t.Errorf("a list became %v as another one was changed", b)
		}
	}
	check(t, s, want)
	before := slices.Clone(want.bounds)
	checkPush(t, s, 1, 5, want.push(1, 5))
	if !slices.Equal(other, before) {
		t.Errorf("a list that was handed out became %v", other)
	}
	checkEmptied(t, s, want)
}

// lay returns lists with so many items for each queue, of ranks that go any way.
func lay(sizes ...int) [][]item[int] {
	l := make([][]item[int], len(sizes))
	for q, size := range sizes {
		for i := range size {
			l[q] = append(l[q], of(uint64(q*i*31%7), 100*q+i))
		}
	}
	return l
}

func checkLay(t *testing.T, s *Queues[int], bounds []uint64, queues [][]item[int], want api.Errno) {
	t.Helper()
	if got := s.Lay(bounds, queues); got != want {
		t.Fatalf("Lay(%v, %v) is %d, not %d", bounds, queues, got, want)
	}
}

// 12.4
func TestLay(t *testing.T) {
	const most = api.MaxU64
	tests := []struct {
		bounds []uint64
		queues [][]item[int]
	}{
		{[]uint64{0}, lay(0)},
		{[]uint64{most}, lay(8)},
		{[]uint64{5}, [][]item[int]{{of(most, 1), of(0, 2), of(0, 2), of(9, 3)}}},
		{[]uint64{0, 0, 0}, lay(0, 0, 0)},
		{[]uint64{0, 0, 0}, lay(0, 8, 0)},
		{[]uint64{1, 1, 2}, lay(3, 2, 3)},
		{[]uint64{1, 2, 2}, lay(2, 0, 1)},
		{[]uint64{most, most, most}, lay(1, 0, 7)},
		{[]uint64{0, 1 << 63, most}, [][]item[int]{nil, {}, {of(3, 1), of(1, 2)}}},
	}
	for _, before := range []int{0, 1, 5, 8} {
		for _, test := range tests {
			n := len(test.bounds)
			s, want := newQueues[int](t, 8, n), model[int]{test.bounds, test.queues}
			for i := range before {
				s.Push(uint64(i*13%5), -i)
			}
			checkLay(t, s, test.bounds, test.queues, api.OK)
			check(t, s, want)
			// What was laid goes on as if it had been pushed.
			want = model[int]{slices.Clone(want.bounds), slices.Clone(want.queues)}
			for i := 0; s.Len() < 8; i++ {
				rank := uint64(i * 5 % 4)
				checkPush(t, s, rank, 1000+i, want.push(rank, 1000+i))
				check(t, s, want)
			}
			checkFull(t, s, 2, -1)
			checkEmptied(t, s, want)
		}
	}
}

// 12.4: with all queues and all the room that there can be.
func TestLayMost(t *testing.T) {
	s, want := newQueues[int](t, api.MaxPackets, api.MaxQueues), empty[int](api.MaxQueues)
	for i := range want.queues {
		want.bounds[i] = uint64(i / 2)
		want.queues[i] = lay(api.MaxPackets / api.MaxQueues)[0]
	}
	checkLay(t, s, want.bounds, want.queues, api.OK)
	check(t, s, want)
	checkFull(t, s, 0, -1)
	more := slices.Clone(want.queues)
	more[7] = append(slices.Clone(more[7]), of(0, -1))
	checkLay(t, s, want.bounds, more, api.ErrCaps)
	check(t, s, want)
}

// 12.4: what is refused changes nothing.
func TestLayRefused(t *testing.T) {
	tests := []struct {
		bounds []uint64
		queues [][]item[int]
		err    api.Errno
	}{
		{nil, nil, api.ErrArg},
		{nil, lay(0, 0, 0), api.ErrArg},
		{[]uint64{0, 0, 0}, nil, api.ErrArg},
		{[]uint64{1, 2}, lay(1, 1, 1), api.ErrArg},
		{[]uint64{1, 2, 3, 4}, lay(1, 1, 1), api.ErrArg},
		{[]uint64{1, 2, 3}, lay(1, 1), api.ErrArg},
		{[]uint64{1, 2, 3}, lay(1, 1, 1, 0), api.ErrArg},
		{[]uint64{1, 2, 3, 4}, lay(1, 1, 1, 1), api.ErrArg},
		{[]uint64{1, 2}, lay(1, 1), api.ErrArg},
		{[]uint64{2, 1, 3}, lay(1, 1, 1), api.ErrArg},
		{[]uint64{1, 3, 2}, lay(1, 1, 1), api.ErrArg},
		{[]uint64{3, 2, 1}, lay(1, 1, 1), api.ErrArg},
		{[]uint64{1, 1, 0}, lay(0, 0, 0), api.ErrArg},
		{[]uint64{0, api.MaxU64, api.MaxU64 - 1}, lay(1, 1, 1), api.ErrArg},
		{[]uint64{1 << 63, 0, 1 << 63}, lay(1, 1, 1), api.ErrArg},
		// ErrArg comes ahead of ErrCaps.
		{[]uint64{1, 2}, lay(5, 5, 5), api.ErrArg},
		{[]uint64{1, 2, 3}, lay(5, 5), api.ErrArg},
		{[]uint64{1, 2, 1}, lay(5, 5, 5), api.ErrArg},
		{[]uint64{1, 2, 3}, lay(9, 0, 0), api.ErrCaps},
		{[]uint64{1, 2, 3}, lay(0, 0, 9), api.ErrCaps},
		{[]uint64{1, 2, 3}, lay(3, 3, 3), api.ErrCaps},
		{[]uint64{0, 0, 0}, lay(8, 8, 8), api.ErrCaps},
		{[]uint64{0, 0, 0}, lay(0, 10000, 0), api.ErrCaps},
	}
	for _, before := range []int{0, 4, 8} {
		for _, test := range tests {
			s, want := newQueues[int](t, 8, 3), empty[int](3)
			for i := range before {
				rank := uint64(i*13%5 + 1)
				checkPush(t, s, rank, i, want.push(rank, i))
			}
			checkLay(t, s, test.bounds, test.queues, test.err)
			check(t, s, want)
			checkEmptied(t, s, want)
		}
	}
}

// 12.4, Ownership: Lay changes nothing of what it is handed, and keeps nothing
// of it.
func TestLayOwnership(t *testing.T) {
	s := newQueues[int](t, 12, 3)
	bounds, queues := []uint64{1, 5, 9}, lay(2, 3, 4)
	checkLay(t, s, bounds, queues, api.OK)
	for i := range 3 {
		s.Push(uint64(i), -i)
	}
	for range 3 {
		s.Pop()
	}
	if !slices.Equal(bounds, []uint64{1, 5, 9}) || !slices.EqualFunc(queues, lay(2, 3, 4), slices.Equal) {
		t.Errorf("what was handed to Lay became %v, %v", bounds, queues)
	}
	checkLay(t, s, bounds, queues, api.OK)
	want := model[int]{[]uint64{1, 5, 9}, lay(2, 3, 4)}
	bounds[0], bounds[2] = 70, 0
	for _, q := range queues {
		q[0] = of(99, -1)
		_ = append(q[:1], of(98, -2))
	}
	queues[1] = nil
	check(t, s, want)
	// The same list may be handed in for several queues.
	one := lay(2)[0]
	checkLay(t, s, []uint64{1, 2, 3}, [][]item[int]{one, one, one}, api.OK)
	want = model[int]{[]uint64{1, 2, 3}, [][]item[int]{one, one, one}}
	check(t, s, want)
	checkEmptied(t, s, want)
}

// 12.4: what Bounds and Queue return can be laid elsewhere, or where it is.
func TestLayAgain(t *testing.T) {
	a, b := newQueues[int](t, 9, 3), newQueues[int](t, 9, 3)
	want := empty[int](3)
	for i, rank := range []uint64{5, 3, 9, 9, 1, 4, 0} {
		checkPush(t, a, rank, i, want.push(rank, i))
	}
	for range 2 {
		for _, s := range []*Queues[int]{a, b} {
			checkLay(t, s, a.Bounds(), [][]item[int]{a.Queue(0), a.Queue(1), a.Queue(2)}, api.OK)
			check(t, s, want)
		}
	}
	checkEmptied(t, a, model[int]{want.bounds, slices.Clone(want.queues)})
	check(t, b, want)
}

// P2: queues of one New know nothing of those of another.
func TestTwo(t *testing.T) {
	a, b := newQueues[int](t, 2, 2), newQueues[int](t, 3, 2)
	checkPush(t, a, 5, 1, 1)
	checkPush(t, b, 7, 2, 1)
	checkPush(t, b, 6, 3, 0)
	checkPush(t, a, 5, 4, 1)
	check(t, a, model[int]{[]uint64{0, 5}, [][]item[int]{nil, {of(5, 1), of(5, 4)}}})
	check(t, b, model[int]{[]uint64{6, 7}, [][]item[int]{{of(6, 3)}, {of(7, 2)}}})
}

// checkTwo pushes two elements and tells whether they leave again.
func checkTwo[T comparable](t *testing.T, x, y T) {
	t.Helper()
	s, want := newQueues[T](t, 2, 2), empty[T](2)
	checkPush(t, s, 2, x, want.push(2, x))
	checkPush(t, s, 1, y, want.push(1, y))
	checkFull(t, s, 0, x)
	check(t, s, want)
	checkEmptied(t, s, want)
}

// 12.2, 12.3, of elements of other types.
func TestTypes(t *testing.T) {
	type pair struct{ a, b int }
	checkTwo(t, pair{1, 2}, pair{3, 4})
	checkTwo(t, struct{}{}, struct{}{})
	checkTwo[any](t, nil, "a")
	checkTwo(t, [2]string{"a"}, [2]string{"", "b"})
	lists := newQueues[[]int](t, 1, 1)
	if rank, x, ok := lists.Pop(); rank != 0 || x != nil || ok {
		t.Error("Pop of no list")
	}
	checkPush(t, lists, 8, []int{5}, 0)
	if rank, x, ok := lists.Pop(); rank != 8 || !slices.Equal(x, []int{5}) || !ok {
		t.Errorf("Pop is %d, %v, %t", rank, x, ok)
	}
}

// 12.4, P1: queues that New did not make.
func TestNotMade(t *testing.T) {
	refused, _ := New[int](1, 0)
	for _, s := range []*Queues[int]{nil, {}, new(Queues[int]), refused} {
		for _, rank := range []uint64{0, 1, api.MaxU64} {
			checkFull(t, s, rank, 1)
			checkPop(t, s, &model[int]{})
			check(t, s, model[int]{})
		}
		for _, bounds := range [][]uint64{nil, {}, {0}, {2, 1}} {
			for _, queues := range [][][]item[int]{nil, {}, lay(0), lay(1), lay(9, 9)} {
				checkLay(t, s, bounds, queues, api.ErrNil)
				check(t, s, model[int]{})
			}
		}
	}
}

// push pushes a new element and returns a pointer that doesn't keep it.
func push(s *Queues[*[64]byte], rank uint64) weak.Pointer[[64]byte] {
	x := new([64]byte)
	s.Push(rank, x)
	return weak.Make(x)
}

// Queues don't keep what elements point to that left, or were replaced.
func TestMemory(t *testing.T) {
	s := newQueues[*[64]byte](t, 4, 2)
	var l []weak.Pointer[[64]byte]
	for _, rank := range []uint64{1, 2, 3, 4} {
		l = append(l, push(s, rank))
	}
	checkKept := func(first int) {
		t.Helper()
		runtime.GC()
		for i, x := range l {
			if (x.Value() == nil) != (i < first) {
				t.Errorf("element %d while those from %d on are in queues", i, first)
			}
		}
	}
	checkKept(0)
	s.Pop()
	checkKept(1)
	s.Queue(1)
	s.Pop()
	checkKept(2)
	s.Lay([]uint64{0, 0}, make([][]item[*[64]byte], 2))
	checkKept(4)
	runtime.KeepAlive(s)
}
