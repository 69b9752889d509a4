package pool

import (
	"math"
	"runtime"
	"slices"
	"testing"
	"weak"

	"pacemaker/api"
)

// newPool makes a pool of free handles and empty queues.
func newPool[T any](t *testing.T, most, queues int) *Pool[T] {
	t.Helper()
	p, err := New[T](most, queues)
	if p == nil || err != api.OK {
		t.Fatalf("New(%d, %d) is %v, %d", most, queues, p, err)
	}
	return p
}

func checkTake[T comparable](t *testing.T, p *Pool[T], x T, h int, ok bool) {
	t.Helper()
	if got, is := p.Take(x); got != h || is != ok {
		t.Errorf("Take(%v) is %d, %t, not %d, %t", x, got, is, h, ok)
	}
}

func checkGet[T comparable](t *testing.T, p *Pool[T], h int, x T, ok bool) {
	t.Helper()
	if got, is := p.Get(h); got != x || is != ok {
		t.Errorf("Get(%d) is %v, %t, not %v, %t", h, got, is, x, ok)
	}
}

func checkGive[T comparable](t *testing.T, p *Pool[T], h int, x T, err api.Errno) {
	t.Helper()
	if got, e := p.Give(h); got != x || e != err {
		t.Errorf("Give(%d) is %v, %d, not %v, %d", h, got, e, x, err)
	}
}

func checkAppend[T comparable](t *testing.T, p *Pool[T], q, h int, err api.Errno) {
	t.Helper()
	if e := p.Append(q, h); e != err {
		t.Errorf("Append(%d, %d) is %d, not %d", q, h, e, err)
	}
}

func checkPop[T comparable](t *testing.T, p *Pool[T], q, h int, ok bool) {
	t.Helper()
	if got, is := p.Head(q); got != h || is != ok {
		t.Errorf("Head(%d) is %d, %t, not %d, %t", q, got, is, h, ok)
	}
	if got, is := p.Pop(q); got != h || is != ok {
		t.Errorf("Pop(%d) is %d, %t, not %d, %t", q, got, is, h, ok)
	}
}

func checkQueue[T comparable](t *testing.T, p *Pool[T], q int, want ...int) {
	t.Helper()
	if got := p.Queue(q); !slices.Equal(got, want) {
		t.Errorf("Queue(%d) is %v, not %v", q, got, want)
	}
	h, ok := 0, len(want) > 0
	if ok {
		h = want[0]
	}
	if got, is := p.Head(q); got != h || is != ok {
		t.Errorf("Head(%d) is %d, %t, not %d, %t", q, got, is, h, ok)
	}
}

func checkLen[T comparable](t *testing.T, p *Pool[T], want int) {
	t.Helper()
	if got := p.Len(); got != want {
		t.Errorf("Len is %d, not %d", got, want)
	}
}

// 7.1
func TestNew(t *testing.T) {
	for _, most := range []int{0, -1, api.MaxPackets + 1, math.MinInt, math.MaxInt} {
		for _, queues := range []int{-1, 0, 1, api.MaxSlots + 1} {
			if p, err := New[int](most, queues); p != nil || err != api.ErrArg {
				t.Errorf("New(%d, %d) is %v, %d", most, queues, p, err)
			}
		}
	}
	for _, queues := range []int{-1, api.MaxSlots + 1, math.MinInt, math.MaxInt} {
		for _, most := range []int{1, api.MaxPackets} {
			if p, err := New[int](most, queues); p != nil || err != api.ErrArg {
				t.Errorf("New(%d, %d) is %v, %d", most, queues, p, err)
			}
		}
	}
	for _, most := range []int{1, 2, api.MaxPackets - 1, api.MaxPackets} {
		for _, queues := range []int{0, 1, 2, api.MaxSlots - 1, api.MaxSlots} {
			p := newPool[int](t, most, queues)
			checkLen(t, p, 0)
			checkGet(t, p, 0, 0, false)
			checkQueue(t, p, 0)
			checkQueue(t, p, queues-1)
		}
	}
}

// 7.1, the chapter's example.
func TestExample(t *testing.T) {
	p := newPool[string](t, 3, 0)
	checkTake(t, p, "a", 0, true)
	checkTake(t, p, "b", 1, true)
	checkGive(t, p, 0, "a", api.OK)
	checkTake(t, p, "c", 0, true)
	checkGet(t, p, 0, "c", true)
	checkGet(t, p, 1, "b", true)
}

// 7.1: the handle given back last comes first, then those never taken.
func TestOrderOfHandles(t *testing.T) {
	p := newPool[int](t, 6, 0)
	for h := range 4 {
		checkTake(t, p, 10+h, h, true)
	}
	checkGive(t, p, 1, 11, api.OK)
	checkGive(t, p, 3, 13, api.OK)
	checkGive(t, p, 0, 10, api.OK)
	checkLen(t, p, 1)
	checkTake(t, p, 20, 0, true)
	checkGive(t, p, 2, 12, api.OK)
	for i, h := range []int{2, 3, 1, 4, 5} {
		checkTake(t, p, 30+i, h, true)
	}
	checkTake(t, p, 40, 0, false)
	checkLen(t, p, 6)
	for h, x := range []int{20, 32, 30, 31, 33, 34} {
		checkGet(t, p, h, x, true)
	}
}

// 7.1, of one handle.
func TestOneHandle(t *testing.T) {
	p := newPool[string](t, 1, 1)
	for _, x := range []string{"a", "b", "c"} {
		checkTake(t, p, x, 0, true)
		checkTake(t, p, "more", 0, false)
		checkLen(t, p, 1)
		checkGet(t, p, 0, x, true)
		checkGet(t, p, 1, "", false)
		checkGive(t, p, 1, "", api.ErrNone)
		checkGive(t, p, 0, x, api.OK)
		checkGet(t, p, 0, "", false)
		checkLen(t, p, 0)
	}
}

// 7.1, of all handles that a pool can have.
func TestAllHandles(t *testing.T) {
	const most = api.MaxPackets
	p := newPool[int](t, most, 1)
	for h := range most {
		checkTake(t, p, 2*h, h, true)
	}
	checkTake(t, p, 1, 0, false)
	for i := range most {
		// 5 and most have no common factor: each handle comes once.
		checkGive(t, p, i*5%most, 2*(i*5%most), api.OK)
		checkLen(t, p, most-1-i)
	}
	for i := range most {
		checkTake(t, p, i, (most-1-i)*5%most, true)
	}
	checkTake(t, p, 1, 0, false)
	for h := range most {
		checkAppend(t, p, 0, most-1-h, api.OK)
	}
	for h := range most {
		checkPop(t, p, 0, most-1-h, true)
	}
	checkPop(t, p, 0, 0, false)
	checkLen(t, p, most)
}

// 7.1, of handles that are free or that no pool of this size has.
func TestNotTaken(t *testing.T) {
	p := newPool[string](t, 3, 1)
	wrong := []int{math.MinInt, -65536, -1, 1, 2, 3, 4, 4096, 65536, 1 << 32, math.MaxInt}
	for range 2 {
		checkTake(t, p, "a", 0, true)
		for _, h := range wrong {
			checkGet(t, p, h, "", false)
			checkGive(t, p, h, "", api.ErrNone)
			checkAppend(t, p, 0, h, api.ErrNone)
		}
		checkLen(t, p, 1)
		checkGet(t, p, 0, "a", true)
		checkQueue(t, p, 0)
		checkGive(t, p, 0, "a", api.OK)
		// What was refused is not given back either: each handle comes once.
		checkGive(t, p, 0, "", api.ErrNone)
		checkTake(t, p, "b", 0, true)
		checkTake(t, p, "c", 1, true)
		checkTake(t, p, "d", 2, true)
		checkTake(t, p, "e", 0, false)
		checkGive(t, p, 2, "d", api.OK)
		checkGive(t, p, 1, "c", api.OK)
		checkGive(t, p, 0, "b", api.OK)
	}
}

// 7.1, 7.2: a handle in a queue is not given back, whatever its place.
func TestGiveOfQueued(t *testing.T) {
	p := newPool[string](t, 3, 2)
	for h, x := range []string{"a", "b", "c"} {
		checkTake(t, p, x, h, true)
		checkAppend(t, p, 1, h, api.OK)
	}
	for h, x := range []string{"a", "b", "c"} {
		checkGive(t, p, h, "", api.ErrState)
		checkGet(t, p, h, x, true)
	}
	checkQueue(t, p, 1, 0, 1, 2)
	checkLen(t, p, 3)
	checkPop(t, p, 1, 0, true)
	checkGive(t, p, 0, "a", api.OK)
	checkGive(t, p, 0, "", api.ErrNone)
	checkGive(t, p, 2, "", api.ErrState)
	checkQueue(t, p, 1, 1, 2)
	// What was in a queue is in none when it is taken again.
	checkTake(t, p, "d", 0, true)
	checkQueue(t, p, 1, 1, 2)
	checkAppend(t, p, 1, 0, api.OK)
	checkQueue(t, p, 1, 1, 2, 0)
}

// 7.2, with its errors in their order.
func TestAppend(t *testing.T) {
	p := newPool[string](t, 4, 2)
	for h := range 3 {
		checkTake(t, p, "x", h, true)
	}
	checkAppend(t, p, 0, 2, api.OK)
	for _, q := range []int{math.MinInt, -1, 2, 3, api.MaxSlots, math.MaxInt} {
		for _, h := range []int{-1, 0, 1, 2, 3, 4} {
			checkAppend(t, p, q, h, api.ErrArg)
		}
	}
	for _, q := range []int{0, 1} {
		checkAppend(t, p, q, 3, api.ErrNone)
		checkAppend(t, p, q, 4, api.ErrNone)
		checkAppend(t, p, q, -1, api.ErrNone)
		checkAppend(t, p, q, 2, api.ErrThere)
	}
	checkQueue(t, p, 0, 2)
	checkQueue(t, p, 1)
	checkAppend(t, p, 1, 1, api.OK)
	checkAppend(t, p, 0, 0, api.OK)
	checkAppend(t, p, 0, 1, api.ErrThere)
	checkAppend(t, p, 1, 0, api.ErrThere)
	checkAppend(t, p, 1, 2, api.ErrThere)
	checkQueue(t, p, 0, 2, 0)
	checkQueue(t, p, 1, 1)
}

// 7.2: a pool without queues, and queues that there are not.
func TestNoSuchQueue(t *testing.T) {
	for _, queues := range []int{0, 1, 3} {
		p := newPool[string](t, 2, queues)
		checkTake(t, p, "a", 0, true)
		for _, q := range []int{math.MinInt, -1, queues, queues + 1, api.MaxSlots, math.MaxInt} {
			checkAppend(t, p, q, 0, api.ErrArg)
			checkPop(t, p, q, 0, false)
			checkQueue(t, p, q)
		}
		checkGive(t, p, 0, "a", api.OK)
	}
}

// 7.2: a handle that is popped stays taken, and goes into another queue.
func TestPop(t *testing.T) {
	p := newPool[string](t, 3, 2)
	checkPop(t, p, 0, 0, false)
	for h, x := range []string{"a", "b", "c"} {
		checkTake(t, p, x, h, true)
	}
	for round := range 4 {
		q := round % 2
		checkAppend(t, p, q, 1, api.OK)
		checkAppend(t, p, q, 2, api.OK)
		checkAppend(t, p, q, 0, api.OK)
		checkQueue(t, p, q, 1, 2, 0)
		checkPop(t, p, 1-q, 0, false)
		checkPop(t, p, q, 1, true)
		checkGet(t, p, 1, "b", true)
		checkAppend(t, p, q, 1, api.OK)
		checkQueue(t, p, q, 2, 0, 1)
		for _, h := range []int{2, 0, 1} {
			checkPop(t, p, q, h, true)
		}
		checkPop(t, p, q, 0, false)
		checkQueue(t, p, q)
		checkLen(t, p, 3)
	}
}

// 7.2, with all queues that a pool can have.
func TestManyQueues(t *testing.T) {
	p := newPool[int](t, api.MaxPackets, api.MaxSlots)
	places := []int{0, 1, 63, 64, 4095, 4096, 65535, 65536, api.MaxSlots - 2, api.MaxSlots - 1}
	for h := range 100 {
		checkTake(t, p, h, h, true)
		checkAppend(t, p, places[h%10], h, api.OK)
	}
	checkAppend(t, p, api.MaxSlots, 0, api.ErrArg)
	for i, q := range places {
		checkQueue(t, p, q, i, i+10, i+20, i+30, i+40, i+50, i+60, i+70, i+80, i+90)
		checkQueue(t, p, q+100)
		for h := i; h < 100; h += 10 {
			checkPop(t, p, q, h, true)
		}
		checkPop(t, p, q, 0, false)
	}
}

// model is a pool, told by lists.
type model struct {
	most     int
	fresh    int   // the least handle that was never taken
	back     []int // the handles that were given back
	elements map[int]int
	queues   [][]int
}

// take takes a handle as the document says.
func (m *model) take(x int) (int, bool) {
	h := m.fresh
	switch n := len(m.back); {
	case n > 0:
		h, m.back = m.back[n-1], m.back[:n-1]
	case h < m.most:
		m.fresh++
	default:
		return 0, false
	}
	m.elements[h] = x
	return h, true
}

// queued tells whether a handle is in a queue.
func (m *model) queued(h int) bool {
	return slices.ContainsFunc(m.queues, func(l []int) bool { return slices.Contains(l, h) })
}

// give gives a handle back as the document says.
func (m *model) give(h int) (int, api.Errno) {
	x, ok := m.elements[h]
	switch {
	case !ok:
		return 0, api.ErrNone
	case m.queued(h):
		return 0, api.ErrState
	}
	delete(m.elements, h)
	m.back = append(m.back, h)
	return x, api.OK
}

// put appends a handle as the document says.
func (m *model) put(q, h int) api.Errno {
	_, ok := m.elements[h]
	switch {
	case q < 0 || q >= len(m.queues):
		return api.ErrArg
	case !ok:
		return api.ErrNone
	case m.queued(h):
		return api.ErrThere
	}
	m.queues[q] = append(m.queues[q], h)
	return api.OK
}

// pop pops a handle as the document says.
func (m *model) pop(q int) (int, bool) {
	if q < 0 || q >= len(m.queues) || len(m.queues[q]) == 0 {
		return 0, false
	}
	h := m.queues[q][0]
	m.queues[q] = m.queues[q][1:]
	return h, true
}

// checkAll tells whether a pool is as its model, by everything that it
// answers, and has each handle in at most one queue.
func checkAll(t *testing.T, p *Pool[int], m *model) {
	t.Helper()
	checkLen(t, p, len(m.elements))
	for h := -1; h <= m.most+1; h++ {
		x, ok := m.elements[h]
		checkGet(t, p, h, x, ok)
	}
	seen := map[int]bool{}
	for q := range len(m.queues) + 2 {
		var want []int
		if q < len(m.queues) {
			want = m.queues[q]
		}
		checkQueue(t, p, q, want...)
		for _, h := range p.Queue(q) {
			if _, ok := p.Get(h); seen[h] || !ok {
				t.Errorf("handle %d is in two queues, or free and in one", h)
			}
			seen[h] = true
		}
	}
}

// 7.1 to 7.4, with many turns, against lists.
func TestMany(t *testing.T) {
	for _, size := range [][2]int{{1, 1}, {2, 1}, {3, 2}, {8, 0}, {8, 3}, {20, 7}} {
		p := newPool[int](t, size[0], size[1])
		m := &model{most: size[0], elements: map[int]int{}, queues: make([][]int, size[1])}
		seed := uint64(size[0])
		next := func(n int) int {
			seed = seed*6364136223846793005 + 1442695040888963407
			return int(seed>>33) % n
		}
		for i := range 5000 {
			h, q := next(size[0]+2)-1, next(size[1]+2)-1
			// The pool is filled and emptied by turns.
			switch next(6 + 2*(i/200%2)) {
			case 0, 1:
				want, ok := m.take(i)
				checkTake(t, p, i, want, ok)
			case 2, 3:
				checkAppend(t, p, q, h, m.put(q, h))
			case 4, 6:
				want, ok := m.pop(q)
				checkPop(t, p, q, want, ok)
			default:
				x, err := m.give(h)
				checkGive(t, p, h, x, err)
			}
			checkAll(t, p, m)
		}
	}
}

// 7.3: an element stays where it is while all others come, go and queue.
func TestElementsStay(t *testing.T) {
	p := newPool[string](t, 50, 3)
	for h := range 50 {
		checkTake(t, p, "other", h, true)
	}
	checkGive(t, p, 20, "other", api.OK)
	checkTake(t, p, "kept", 20, true)
	checkAppend(t, p, 1, 20, api.OK)
	for round := range 5 {
		for h := range 50 {
			if h != 20 {
				checkGive(t, p, h, "other", api.OK)
				checkTake(t, p, "other", h, true)
				checkAppend(t, p, round%3, h, api.OK)
				checkGet(t, p, 20, "kept", true)
			}
		}
		for q := range 3 {
			for range p.Queue(q) {
				p.Pop(q)
			}
			checkGet(t, p, 20, "kept", true)
		}
		checkAppend(t, p, round%3, 20, api.OK)
	}
	checkGive(t, p, 20, "", api.ErrState)
	checkPop(t, p, 1, 20, true)
	checkGive(t, p, 20, "kept", api.OK)
}

// Ownership: a list that was handed out is the caller's.
func TestLists(t *testing.T) {
	p := newPool[int](t, 3, 1)
	for h := range 3 {
		checkTake(t, p, h, h, true)
		checkAppend(t, p, 0, h, api.OK)
	}
	l := p.Queue(0)
	l[0], l[1] = 7, 7
	checkQueue(t, p, 0, 0, 1, 2)
	l = p.Queue(0)
	checkPop(t, p, 0, 0, true)
	if !slices.Equal(l, []int{0, 1, 2}) {
		t.Errorf("a list that was handed out became %v", l)
	}
}

// P2: pools know nothing of each other.
func TestTwoPools(t *testing.T) {
	a, b := newPool[int](t, 2, 1), newPool[int](t, 2, 1)
	checkTake(t, a, 5, 0, true)
	checkAppend(t, a, 0, 0, api.OK)
	checkGet(t, b, 0, 0, false)
	checkQueue(t, b, 0)
	checkTake(t, b, 6, 0, true)
	checkGive(t, b, 0, 6, api.OK)
	checkGet(t, a, 0, 5, true)
	checkQueue(t, a, 0, 0)
}

// 7.1, of elements of other types.
func TestTypes(t *testing.T) {
	type pair struct{ a, b int }
	pairs := newPool[pair](t, 2, 0)
	checkTake(t, pairs, pair{1, 2}, 0, true)
	checkGet(t, pairs, 0, pair{1, 2}, true)
	checkGive(t, pairs, 0, pair{1, 2}, api.OK)
	boxed := newPool[any](t, 2, 0)
	checkTake(t, boxed, nil, 0, true)
	checkGet(t, boxed, 0, nil, true)
	checkGive(t, boxed, 0, nil, api.OK)
	checkGive(t, boxed, 0, nil, api.ErrNone)
	empties := newPool[struct{}](t, 1, 0)
	checkTake(t, empties, struct{}{}, 0, true)
	checkTake(t, empties, struct{}{}, 0, false)
}

// 7.2, P1: pools that New did not make.
func TestNotMade(t *testing.T) {
	for _, p := range []*Pool[string]{nil, {}, new(Pool[string])} {
		for range 2 {
			checkTake(t, p, "a", 0, false)
			checkLen(t, p, 0)
			for _, h := range []int{math.MinInt, -1, 0, 1, math.MaxInt} {
				checkGet(t, p, h, "", false)
				checkGive(t, p, h, "", api.ErrNil)
				checkAppend(t, p, h, 0, api.ErrNil)
				checkAppend(t, p, 0, h, api.ErrNil)
				checkPop(t, p, h, 0, false)
				checkQueue(t, p, h)
			}
		}
	}
}

// take takes a handle for a new element and returns a pointer that doesn't
// keep it.
func take(p *Pool[*[64]byte]) weak.Pointer[[64]byte] {
	x := new([64]byte)
	p.Take(x)
	return weak.Make(x)
}

// The memory of removed elements is cleared: what they point to isn't kept.
func TestMemory(t *testing.T) {
	p := newPool[*[64]byte](t, 4, 1)
	l := []weak.Pointer[[64]byte]{take(p), take(p), take(p)}
	p.Append(0, 1)
	p.Pop(0)
	for n, h := range []int{1, 0, 2} {
		p.Give(h)
		runtime.GC()
		for i, x := range l {
			if (x.Value() == nil) != slices.Contains([]int{1, 0, 2}[:n+1], i) {
				t.Errorf("element %d after %d were given back", i, n+1)
			}
		}
	}
	runtime.KeepAlive(p)
}
