package ring

import (
	"math"
	"runtime"
	"slices"
	"strconv"
	"testing"
	"weak"

	"pacemaker/api"
)

// newRing makes a ring with room for so many elements.
func newRing[T any](t *testing.T, room int) *Ring[T] {
	t.Helper()
	r, err := New[T](room)
	if r == nil || err != api.OK {
		t.Fatalf("New(%d) is %v, %d", room, r, err)
	}
	return r
}

// checkAt tells whether index i of a ring has what it has in want.
func checkAt[T comparable](t *testing.T, r *Ring[T], want []T, i int) {
	t.Helper()
	var x T
	ok := i >= 0 && i < len(want)
	if ok {
		x = want[i]
	}
	if got, is := r.At(i); got != x || is != ok {
		t.Errorf("At(%d) of %v is %v, %t", i, want, got, is)
	}
}

// checkLast tells whether the last n elements are those of want.
func checkLast[T comparable](t *testing.T, r *Ring[T], want []T, n int) {
	t.Helper()
	last := want[len(want)-min(max(n, 0), len(want)):]
	if got := r.Last(n); !slices.Equal(got, last) {
		t.Errorf("Last(%d) of %v is %v", n, want, got)
	}
}

// check tells whether a ring holds want, by everything that it answers.
func check[T comparable](t *testing.T, r *Ring[T], want []T, room int) {
	t.Helper()
	n := len(want)
	if r.Len() != n || r.Room() != room-n {
		t.Errorf("%v: Len is %d, Room is %d", want, r.Len(), r.Room())
	}
	if got := r.All(); !slices.Equal(got, want) {
		t.Errorf("All is %v, not %v", got, want)
	}
	var first T
	if n > 0 {
		first = want[0]
	}
	if x, ok := r.Head(); x != first || ok != (n > 0) {
		t.Errorf("Head of %v is %v, %t", want, x, ok)
	}
	for i := -2; i < n+3; i++ {
		checkAt(t, r, want, i)
		checkLast(t, r, want, i)
	}
	for _, i := range []int{math.MinInt, -room, room - 1, room, room + n, 2 * room, api.MaxRing, math.MaxInt} {
		checkAt(t, r, want, i)
		checkLast(t, r, want, i)
	}
}

// 6.1
func TestNew(t *testing.T) {
	for _, room := range []int{0, -1, api.MaxRing + 1, 2 * api.MaxRing, math.MinInt, math.MaxInt} {
		if r, err := New[int](room); r != nil || err != api.ErrArg {
			t.Errorf("New(%d) is %v, %d", room, r, err)
		}
	}
	for _, room := range []int{1, 2, 3, 1000, api.MaxRing - 1, api.MaxRing} {
		check(t, newRing[int](t, room), nil, room)
	}
}

// 6.1, 6.2, with room for one element.
func TestRoomOfOne(t *testing.T) {
	r := newRing[string](t, 1)
	for i := range 5 {
		x := strconv.Itoa(i)
		if !r.Put(x) || r.Put("more") {
			t.Error("Put")
		}
		check(t, r, []string{x}, 1)
		if got, ok := r.Take(); got != x || !ok {
			t.Errorf("Take is %q, %t, not %q", got, ok, x)
		}
		check(t, r, nil, 1)
	}
}

// 6.1 and 6.3, with all the room that a ring can have.
func TestGreatestRoom(t *testing.T) {
	r := newRing[int](t, api.MaxRing)
	for round := range 3 {
		for i := range api.MaxRing {
			if !r.Put(i + round) {
				t.Fatalf("there is no room for element %d", i)
			}
		}
		if r.Put(-1) || r.Room() != 0 || r.Len() != api.MaxRing {
			t.Error("a full ring has room")
		}
		checkAt(t, r, r.All(), api.MaxRing-1)
		checkAt(t, r, r.All(), api.MaxRing)
		for i := range api.MaxRing - 7*round {
			if x, ok := r.Take(); x != i+round || !ok {
				t.Fatalf("element %d is %d, %t", i, x, ok)
			}
		}
		if n := r.Clear(); n != 7*round {
			t.Errorf("Clear is %d", n)
		}
	}
}

// 6.1, the chapter's example.
func TestExample(t *testing.T) {
	r := newRing[string](t, 2)
	if !r.Put("a") || !r.Put("b") || r.Put("c") {
		t.Error("Put")
	}
	check(t, r, []string{"a", "b"}, 2)
	if x, ok := r.Take(); x != "a" || !ok || !r.Put("c") {
		t.Error("Take")
	}
	check(t, r, []string{"b", "c"}, 2)
}

// 6.1, 6.2: what is refused, and what there is not, leaves a ring as it was.
func TestNothing(t *testing.T) {
	r := newRing[string](t, 3)
	for range 3 {
		if x, ok := r.Take(); x != "" || ok {
			t.Errorf("Take is %q, %t", x, ok)
		}
		if r.Clear() != 0 {
			t.Error("Clear of an empty ring is not 0")
		}
		check(t, r, nil, 3)
	}
	r.Put("a")
	r.Put("b")
	r.Put("c")
	for range 3 {
		if r.Put("d") {
			t.Error("Put into a full ring")
		}
		check(t, r, []string{"a", "b", "c"}, 3)
	}
	r.Take()
	r.Take()
	r.Take()
	if x, ok := r.Take(); x != "" || ok {
		t.Errorf("Take is %q, %t", x, ok)
	}
	check(t, r, nil, 3)
}

// 6.2, wherever a ring begins, and however full it is.
func TestClear(t *testing.T) {
	const room = 5
	for taken := range 2 * room {
		for held := range room + 1 {
			r := newRing[int](t, room)
			for i := range taken {
				r.Put(-i)
				r.Take()
			}
			for i := range held {
				r.Put(i + 1)
			}
			check(t, r, []int{1, 2, 3, 4, 5}[:held], room)
			if n := r.Clear(); n != held {
				t.Errorf("Clear of %d elements is %d", held, n)
			}
			check(t, r, nil, room)
			if n := r.Clear(); n != 0 {
				t.Errorf("Clear after Clear is %d", n)
			}
			for i := range room {
				r.Put(10 * i)
			}
			check(t, r, []int{0, 10, 20, 30, 40}, room)
		}
	}
}

// 6.1 to 6.3, with many turns, against a list.
func TestMany(t *testing.T) {
	for _, room := range []int{1, 2, 3, 4, 5, 7, 8, 9, 31, 64} {
		r := newRing[int](t, room)
		var want []int
		seed := uint64(room)
		for i := range 3000 {
			seed = seed*6364136223846793005 + 1442695040888963407
			// The ring is filled and emptied by turns.
			likely := uint64(3 + 2*(i/(3*room)%2))
			switch {
			case seed>>60 == 15 && seed>>50&15 == 0:
				if n := r.Clear(); n != len(want) {
					t.Errorf("Clear is %d, not %d", n, len(want))
				}
				want = nil
			case seed>>40%8 < likely:
				if r.Put(i) != (len(want) < room) {
					t.Errorf("Put with %d of %d elements", len(want), room)
				}
				if len(want) < room {
					want = append(want, i)
				}
			default:
				x, ok := r.Take()
				if ok != (len(want) > 0) || ok && x != want[0] || !ok && x != 0 {
					t.Errorf("Take of %v is %d, %t", want, x, ok)
				}
				want = want[min(1, len(want)):]
			}
			check(t, r, want, room)
		}
	}
}

// 6.3: a ring gives back in order what went into it, however often it goes
// round.
func TestInOrder(t *testing.T) {
	for room := 1; room < 20; room++ {
		for held := 1; held <= room; held++ {
			r := newRing[int](t, room)
			next := 0
			for i := range 10 * room {
				r.Put(i)
				if r.Len() < held {
					continue
				}
				if x, ok := r.Take(); x != next || !ok {
					t.Errorf("room %d: element %d is %d, %t", room, next, x, ok)
				}
				next++
			}
		}
	}
}

// Ownership: lists that were handed out share nothing.
func TestLists(t *testing.T) {
	r := newRing[int](t, 4)
	for i := range 6 {
		if i > 3 {
			r.Take()
		}
		r.Put(i)
	}
	want := []int{2, 3, 4, 5}
	for _, l := range [][]int{r.All(), r.All(), r.Last(2), r.Last(9)} {
		for i := range l {
			l[i] = -1
		}
		_ = append(l[:0], -2, -3)
		check(t, r, want, 4)
	}
	kept := r.All()
	r.Clear()
	r.Put(9)
	if !slices.Equal(kept, want) {
		t.Errorf("a list that was handed out became %v", kept)
	}
}

// P2: rings know nothing of each other.
func TestTwoRings(t *testing.T) {
	a, b := newRing[int](t, 2), newRing[int](t, 3)
	a.Put(1)
	b.Put(7)
	b.Put(8)
	a.Take()
	check(t, a, nil, 2)
	check(t, b, []int{7, 8}, 3)
	b.Clear()
	a.Put(2)
	check(t, a, []int{2}, 2)
	check(t, b, nil, 3)
}

// 6.1, of elements of other types.
func TestTypes(t *testing.T) {
	type pair struct{ a, b int }
	pairs := newRing[pair](t, 2)
	pairs.Put(pair{1, 2})
	pairs.Put(pair{3, 4})
	check(t, pairs, []pair{{1, 2}, {3, 4}}, 2)
	empties := newRing[struct{}](t, 2)
	empties.Put(struct{}{})
	check(t, empties, []struct{}{{}}, 2)
	lists := newRing[[]int](t, 1)
	if x, ok := lists.Take(); x != nil || ok {
		t.Error("Take of no list")
	}
	lists.Put([]int{5})
	if x, ok := lists.At(0); !slices.Equal(x, []int{5}) || !ok {
		t.Errorf("At is %v, %t", x, ok)
	}
	boxed := newRing[any](t, 1)
	boxed.Put(nil)
	if x, ok := boxed.Head(); x != nil || !ok {
		t.Error("an element that is nil is none")
	}
	check(t, boxed, []any{nil}, 1)
}

// 6.2, P1: rings that New did not make.
func TestNotMade(t *testing.T) {
	for _, r := range []*Ring[string]{nil, {}, new(Ring[string])} {
		for range 2 {
			if r.Put("a") {
				t.Error("Put into a ring that New did not make")
			}
			if x, ok := r.Take(); x != "" || ok {
				t.Errorf("Take is %q, %t", x, ok)
			}
			if n := r.Clear(); n != 0 {
				t.Errorf("Clear is %d", n)
			}
			check(t, r, nil, 0)
		}
	}
}

// put puts a new element and returns a pointer that doesn't keep it.
func put(r *Ring[*[64]byte]) weak.Pointer[[64]byte] {
	x := new([64]byte)
	r.Put(x)
	return weak.Make(x)
}

// The memory of removed elements is cleared: what they point to isn't kept.
func TestMemory(t *testing.T) {
	r := newRing[*[64]byte](t, 4)
	put(r)
	put(r)
	r.Take()
	r.Take()
	var l []weak.Pointer[[64]byte]
	for range 4 {
		l = append(l, put(r))
	}
	for n := range 3 {
		r.Take()
		runtime.GC()
		for i, x := range l {
			if (x.Value() == nil) != (i <= n) {
				t.Errorf("element %d after %d were taken", i, n+1)
			}
		}
	}
	l = append(l, put(r), put(r))
	r.Clear()
	runtime.GC()
	for i, x := range l {
		if x.Value() != nil {
			t.Errorf("element %d after Clear", i)
		}
	}
	runtime.KeepAlive(r)
}
