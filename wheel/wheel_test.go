package wheel

import (
	"math"
	"runtime"
	"slices"
	"strings"
	"testing"
	"weak"

	"pacemaker/api"
)

const most = api.MaxU64

// timed is an element and its time.
type timed[T any] struct {
	at uint64
	x  T
}

// both is a wheel, and what it should be: a sorted list and a time.
type both[T comparable] struct {
	t    *testing.T
	w    *Wheel[T]
	room int
	now  uint64
	list []timed[T]
}

// newBoth makes a wheel with room for so many elements.
func newBoth[T comparable](t *testing.T, room int) *both[T] {
	t.Helper()
	w, err := New[T](room)
	if w == nil || err != api.OK {
		t.Fatalf("New(%d) is %v, %d", room, w, err)
	}
	b := &both[T]{t: t, w: w, room: room}
	b.check()
	return b
}

// check tells whether the wheel is what it should be.
func (b *both[T]) check() {
	b.t.Helper()
	if n := b.w.Len(); n != len(b.list) {
		b.t.Fatalf("Len is %d, not %d", n, len(b.list))
	}
	if now := b.w.Now(); now != b.now {
		b.t.Fatalf("Now is %d, not %d", now, b.now)
	}
	var next uint64
	if len(b.list) > 0 {
		next = b.list[0].at
	}
	if at, ok := b.w.Next(); at != next || ok != (len(b.list) > 0) {
		b.t.Fatalf("Next is %d, %t, not %d", at, ok, next)
	}
}

// add adds an element to both.
func (b *both[T]) add(at uint64, x T) {
	b.t.Helper()
	fits := len(b.list) < b.room
	if fits {
		i := 0
		for i < len(b.list) && b.list[i].at <= at {
			i++
		}
		b.list = slices.Insert(b.list, i, timed[T]{at, x})
	}
	if b.w.Add(at, x) != fits {
		b.t.Fatalf("Add(%d, %v) to %d of %d is %t", at, x, len(b.list), b.room, !fits)
	}
	b.check()
}

// due lets both become now, and returns what is due.
func (b *both[T]) due(now uint64) []T {
	b.t.Helper()
	b.now = max(b.now, now)
	var want []T
	for len(b.list) > 0 && b.list[0].at <= b.now {
		want = append(want, b.list[0].x)
		b.list = b.list[1:]
	}
	got := b.w.Due(now)
	if !slices.Equal(got, want) {
		b.t.Fatalf("Due(%d) is %v, not %v", now, got, want)
	}
	b.check()
	return got
}

// dueIs tells whether these elements are due.
func (b *both[T]) dueIs(now uint64, want ...T) {
	b.t.Helper()
	if got := b.due(now); !slices.Equal(got, want) {
		b.t.Fatalf("%v are due at %d, not %v", got, now, want)
	}
}

// random returns a function whose result is less than n.
func random(seed uint64) func(n uint64) uint64 {
	return func(n uint64) uint64 {
		seed = seed*6364136223846793005 + 1442695040888963407
		return (seed>>32 ^ seed<<32) % n
	}
}

// edges are times at which digits of times change, whatever their base is.
func edges() []uint64 {
	l := []uint64{0, most, 4095, 4096, 4097, 1<<63 + 1<<62, 1e9, 1e18}
	for i := range 64 {
		l = append(l, 1<<i-1, 1<<i, 1<<i+1)
	}
	slices.Sort(l)
	return slices.Compact(l)
}

// 28.1
func TestNew(t *testing.T) {
	for _, room := range []int{0, -1, api.MaxPackets + 1, 2 * api.MaxPackets, api.MaxRing, math.MinInt, math.MaxInt} {
		if w, err := New[int](room); w != nil || err != api.ErrCaps {
			t.Errorf("New(%d) is %v, %d", room, w, err)
		}
	}
	for _, room := range []int{1, 2, 63, 64, 65, api.MaxPackets - 1, api.MaxPackets} {
		newBoth[int](t, room)
	}
}

// 28.1, the chapter's example.
func TestExample(t *testing.T) {
	b := newBoth[string](t, 4)
	b.add(70, "a")
	b.add(5, "b")
	b.add(5, "c")
	b.dueIs(4)
	b.dueIs(80, "b", "c", "a")
	b.add(3, "d")
	b.dueIs(0, "d")
}

// 28.1: there is room for so many elements, whatever their times are, and again
// for as many as were due.
func TestRoom(t *testing.T) {
	for _, room := range []int{1, 2, 3, 64, 65, 1000, api.MaxPackets} {
		b := newBoth[int](t, room)
		for round := range uint64(3) {
			start := 100000 * round
			for i := len(b.list); i < room; i++ {
				b.add(start+uint64(i*i%1021), i)
			}
			for _, at := range []uint64{0, start, start + 1, start + 5000, most} {
				b.add(at, -1)
			}
			for _, now := range []uint64{0, start, start + 3, start + 500} {
				due := b.due(now)
				for i := range due {
					b.add(start+uint64(i%3)*2000, i)
				}
				b.add(start, -2)
			}
		}
		b.due(most)
		b.due(most)
	}
}

// 28.1, 28.2: one element, of any time, in a wheel of any time.
func TestOne(t *testing.T) {
	for _, now := range edges() {
		for _, at := range edges() {
			b := newBoth[string](t, 1)
			b.dueIs(now)
			b.add(at, "a")
			b.add(at, "more")
			if at > now {
				b.dueIs(now)
				b.dueIs(at - 1)
			}
			b.dueIs(at, "a")
			b.dueIs(at)
			b.dueIs(0)
		}
	}
}

// 28.1: elements at all distances from each other and from the wheel's time, in
// the order of their times, however they were added.
func TestDistances(t *testing.T) {
	for _, start := range []uint64{0, 1, 63, 64, 4095, 1<<32 - 1, 1 << 32, 1<<63 - 1, 1 << 63, most - 70} {
		for _, step := range []int{1, 7, 50, -1} {
			b := newBoth[int](t, 1000)
			b.due(start)
			times := edges()
			for i := range times {
				// The last step goes the other way round.
				k := (i*step%len(times) + len(times)) % len(times)
				b.add(start+times[k], k)
				b.add(start-times[k], -k)
				b.add(times[k], 1000+k)
			}
			for _, ahead := range times {
				b.due(start + ahead)
				b.due(ahead)
			}
			b.due(most)
		}
	}
}

// 28.1: elements at equal times are in the order in which they were added, even
// if the time went on between, and nearer and nearer to theirs.
func TestEqualTimes(t *testing.T) {
	for _, at := range []uint64{1, 63, 64, 65, 128, 4096, 5000, 1 << 20, 1<<36 + 5, 1 << 63, most - 1, most} {
		b := newBoth[string](t, 100)
		var want []string
		for i := range 65 {
			x := strings.Repeat("x", i+1)
			b.add(at, x)
			want = append(want, x)
			if left := at >> i; left > 0 {
				b.dueIs(at - left)
			}
		}
		b.dueIs(at - 1)
		b.add(at, "last")
		b.dueIs(at, append(want, "last")...)
	}
}

// 28.1: an element that is added when its time has come is ahead of those of
// later times, and behind those that were added before with the same one.
func TestPast(t *testing.T) {
	b := newBoth[string](t, 20)
	b.dueIs(100)
	b.add(101, "a")
	b.add(100, "b")
	b.add(99, "c")
	b.add(0, "d")
	b.add(99, "e")
	b.add(100, "f")
	b.add(50, "g")
	b.add(102, "h")
	b.add(0, "i")
	b.dueIs(50, "d", "i", "g", "c", "e", "b", "f")
	b.dueIs(99)
	b.add(100, "j")
	b.add(101, "k")
	b.add(7, "l")
	b.dueIs(101, "l", "j", "a", "k")
	b.add(101, "m")
	b.add(102, "n")
	b.dueIs(101, "m")
	b.add(102, "o")
	b.dueIs(most, "h", "n", "o")
	b.add(most, "p")
	b.add(0, "q")
	b.add(most, "r")
	b.add(most-1, "s")
	b.dueIs(0, "q", "s", "p", "r")
}

// 28.1: the time 0 has come from the beginning on.
func TestZero(t *testing.T) {
	b := newBoth[string](t, 5)
	b.add(0, "a")
	b.add(1, "b")
	b.add(0, "c")
	b.dueIs(0, "a", "c")
	b.dueIs(0)
	b.add(0, "d")
	b.dueIs(1, "d", "b")
}

// 28.1: the time is the greatest that Due was called with.
func TestTime(t *testing.T) {
	b := newBoth[string](t, 9)
	for i, now := range []uint64{5, 3, 5, 0, 6, 5, 64, 63, 65, 0, 1 << 40, 1 << 39, 1<<40 + 1, most, most - 1, 0} {
		b.add(now+2, string(rune('a'+i%20)))
		b.due(now)
	}
}

// 28.1, 28.3: elements of the 63rd, the 64th and the 65th tick, and of powers
// of 2, from any time on, become due just then.
func TestTicks(t *testing.T) {
	distances := []uint64{0, 1, 2, 32, 63, 64, 65, 127, 128, 129, 256}
	for start := range uint64(200) {
		b := newBoth[int](t, 20)
		b.due(start)
		for i, d := range distances {
			b.add(start+d, i)
		}
		for now := start; len(b.list) > 0; now++ {
			b.due(now)
		}
		if now := b.w.Now(); now != start+256 {
			t.Errorf("all were due at %d", now)
		}
	}
}

// steps returns all that becomes due of elements with these times in steps that
// step tells, from the time of the wheel on, at last as far as the greatest one.
func steps(t *testing.T, times []uint64, step func(now uint64) uint64) []int {
	t.Helper()
	b := newBoth[int](t, max(1, len(times)))
	for i, at := range times {
		b.add(at, i)
	}
	var l []int
	end := slices.Max(times)
	for b.now < end {
		next := step(b.now)
		if next <= b.now || next > end {
			next = end
		}
		l = append(l, b.due(next)...)
	}
	return append(l, b.due(most)...)
}

// 28.3
func TestSteps(t *testing.T) {
	next := random(3)
	for _, scale := range []uint64{2, 64, 65, 500, 5000, 1 << 13} {
		times := make([]uint64, 300)
		for i := range times {
			times[i] = next(scale)
		}
		want := steps(t, times, func(now uint64) uint64 { return most })
		if !slices.IsSortedFunc(want, func(a, b int) int {
			if times[a] != times[b] {
				return int(times[a]) - int(times[b])
			}
			return a - b
		}) || len(want) != len(times) {
			t.Errorf("not in order: %v", want)
		}
		for _, n := range []uint64{1, 2, 3, 7, 63, 64, 65, 100, 4095, 4096} {
			if got := steps(t, times, func(now uint64) uint64 { return now + n }); !slices.Equal(got, want) {
				t.Errorf("steps of %d: %v, not %v", n, got, want)
			}
		}
		if got := steps(t, times, func(now uint64) uint64 { return now + next(200) }); !slices.Equal(got, want) {
			t.Errorf("%v, not %v", got, want)
		}
	}
}

// 28.3, over all times that there are: what has become due until some time was
// in the same order, in however many steps.
func TestGreatSteps(t *testing.T) {
	next := random(5)
	for range 50 {
		times := edges()
		for i := range times {
			j := next(uint64(i + 1))
			times[i], times[j] = times[j], times[i]
		}
		times = append(times, times[:100]...)
		want := steps(t, times, func(now uint64) uint64 { return most })
		for _, scale := range []uint64{8, 16, 32, 64} {
			got := steps(t, times, func(now uint64) uint64 {
				return now + max(now>>3, next(most)>>(63-next(scale)))
			})
			if !slices.Equal(got, want) {
				t.Errorf("scale %d: %v, not %v", scale, got, want)
			}
		}
	}
}

// 28.3: what is added between to be due later changes nothing for the order of
// all; what is due already comes with the next Due, whatever its time is.
func TestAddedBetween(t *testing.T) {
	whole := newBoth[string](t, 9)
	parts := newBoth[string](t, 9)
	for _, b := range []*both[string]{whole, parts} {
		b.add(10, "a")
		b.add(80, "b")
		b.add(5000, "c")
	}
	parts.dueIs(10, "a")
	for _, b := range []*both[string]{whole, parts} {
		b.add(80, "d")
		b.add(11, "e")
		b.add(5000, "f")
	}
	parts.dueIs(79, "e")
	parts.dueIs(80, "b", "d")
	parts.dueIs(5000, "c", "f")
	whole.dueIs(5000, "a", "e", "b", "d", "c", "f")

	parts.add(4999, "g")
	parts.add(5001, "h")
	parts.add(12, "i")
	parts.dueIs(5000, "i", "g")
	parts.dueIs(5001, "h")
}

// 28.1, 28.2: all short lists of calls with few times.
func TestAllCalls(t *testing.T) {
	times := []uint64{0, 1, 63, 64, 65}
	kinds := 2 * len(times)
	for n := range 6 {
		count := int(math.Pow(float64(kinds), float64(n)))
		for k := range count {
			b := newBoth[int](t, 3)
			for i := range n {
				at := times[k/2%len(times)]
				if k%2 == 0 {
					b.add(at, i)
				} else {
					b.due(at)
				}
				k /= kinds
			}
			b.due(most)
		}
	}
}

// 28.1, 28.2: long rows of calls, with times at all scales, against a sorted
// list.
func TestMany(t *testing.T) {
	for seed := range uint64(40) {
		next := random(seed)
		b := newBoth[int](t, []int{1, 2, 10, 100, 1000}[seed%5])
		scale := []uint64{3, 6, 7, 12, 20, 40, 63, 64}[seed%8]
		// far is a number of any size below 2^scale.
		far := func() uint64 { return next(most) >> (63 - next(scale)) }
		for i := range 3000 {
			switch r := next(20); {
			case r < 10:
				b.add(b.now+far(), i)
			case r < 12:
				b.add(b.now-min(b.now, far()), i)
			case r < 13 && len(b.list) > 0:
				b.add(b.list[next(uint64(len(b.list)))].at, i)
			case r < 15:
				// As far as the first elements, or nearly so.
				b.due(max(1, b.first()) + next(3) - 1)
			case r < 16:
				b.due(b.now - min(b.now, far()))
			default:
				// The time must not reach its end too soon.
				b.due(b.now + far()>>min(scale-1, 8+next(8)))
			}
		}
		b.due(most)
	}
}

// first returns the time of the first element, or the wheel's time.
func (b *both[T]) first() uint64 {
	if len(b.list) == 0 {
		return b.now
	}
	return b.list[0].at
}

// Ownership: lists that were handed out share nothing.
func TestLists(t *testing.T) {
	b := newBoth[int](t, 6)
	for i := range 3 {
		b.add(1, i)
		b.add(64, 10+i)
	}
	first := b.due(1)
	for i := range 3 {
		b.add(1, 20+i)
	}
	second := b.due(1)
	for i := range first {
		first[i] = -1
	}
	_ = append(first[:0], -2, -3)
	if !slices.Equal(second, []int{20, 21, 22}) {
		t.Errorf("a list became %v as another one was changed", second)
	}
	third := b.due(100)
	if !slices.Equal(third, []int{10, 11, 12}) {
		t.Errorf("the last list is %v", third)
	}
	b.add(200, 30)
	b.due(200)
	if !slices.Equal(second, []int{20, 21, 22}) || !slices.Equal(third, []int{10, 11, 12}) {
		t.Errorf("lists that were handed out became %v, %v", second, third)
	}
}

// P2: wheels know nothing of each other.
func TestTwoWheels(t *testing.T) {
	a, b := newBoth[int](t, 2), newBoth[int](t, 3)
	a.add(5, 1)
	b.add(5, 7)
	b.add(64, 8)
	a.add(5, 2)
	a.due(5)
	b.check()
	b.due(64)
	a.check()
}

// 28.1, of elements of other types.
func TestTypes(t *testing.T) {
	type pair struct {
		a int
		b string
	}
	pairs := newBoth[pair](t, 2)
	pairs.add(2, pair{1, "x"})
	pairs.add(1, pair{2, "y"})
	pairs.due(2)
	empties := newBoth[struct{}](t, 2)
	empties.add(2, struct{}{})
	empties.add(2, struct{}{})
	empties.add(2, struct{}{})
	empties.due(2)
	boxed := newBoth[any](t, 3)
	boxed.add(1, nil)
	boxed.add(1, "a")
	boxed.add(0, 7)
	boxed.due(1)
	lists, err := New[[]int](1)
	if err != api.OK || !lists.Add(9, []int{5}) || lists.Add(9, nil) {
		t.Error("a list")
	}
	if l := lists.Due(9); len(l) != 1 || !slices.Equal(l[0], []int{5}) {
		t.Errorf("Due is %v", l)
	}
	funcs, err := New[func() int](1)
	if err != api.OK || !funcs.Add(9, func() int { return 3 }) {
		t.Error("a function")
	}
	if l := funcs.Due(9); len(l) != 1 || l[0]() != 3 {
		t.Error("Due of a function")
	}
}

// 28.2, P1: wheels that New did not make.
func TestNotMade(t *testing.T) {
	for _, w := range []*Wheel[string]{nil, {}, new(Wheel[string])} {
		b := &both[string]{t: t, w: w}
		for _, at := range []uint64{0, 1, 64, most} {
			b.add(at, "a")
			if l := w.Due(at); len(l) != 0 {
				t.Errorf("Due(%d) is %v", at, l)
			}
			b.check()
		}
	}
}

// add adds a new element and returns a pointer that doesn't keep it.
func add(w *Wheel[*[64]byte], at uint64) weak.Pointer[[64]byte] {
	x := new([64]byte)
	w.Add(at, x)
	return weak.Make(x)
}

// A wheel doesn't keep what removed elements point to.
func TestMemory(t *testing.T) {
	w, _ := New[*[64]byte](9)
	times := []uint64{64, 0, 5000, 1, 65, 4096, 4, 65}
	var l []weak.Pointer[[64]byte]
	for _, at := range times {
		l = append(l, add(w, at))
	}
	for _, now := range []uint64{0, 1, 3, 4, 64, 65, 4096, 5000} {
		w.Due(now)
		runtime.GC()
		for i, x := range l {
			if (x.Value() == nil) != (times[i] <= now) {
				t.Errorf("the element with the time %d at %d", times[i], now)
			}
		}
	}
	runtime.KeepAlive(w)
}
