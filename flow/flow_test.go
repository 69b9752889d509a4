package flow

import (
	"maps"
	"math"
	"runtime"
	"slices"
	"testing"
	"weak"

	"pacemaker/api"
)

const last = math.MaxUint32

// newTable makes an empty table.
func newTable[T any](t *testing.T, room int) *Table[T] {
	t.Helper()
	x, err := New[T](room)
	if x == nil || err != api.OK {
		t.Fatalf("New(%d) is %v, %d", room, x, err)
	}
	return x
}

// pair is a table, and a plain map of what it should hold.
type pair[T comparable] struct {
	*testing.T
	table *Table[T]
	room  int
	m     map[uint32]T
}

// newPair makes an empty table and an empty map.
func newPair[T comparable](t *testing.T, room int) *pair[T] {
	t.Helper()
	return &pair[T]{t, newTable[T](t, room), room, map[uint32]T{}}
}

// put puts an element into both.
func (p *pair[T]) put(id uint32, x T) {
	p.Helper()
	want := api.OK
	if _, ok := p.m[id]; ok {
		want = api.ErrThere
	} else if len(p.m) == p.room {
		want = api.ErrFull
	} else {
		p.m[id] = x
	}
	if got := p.table.Put(id, x); got != want {
		p.Fatalf("Put(%d, %v) is %d, not %d, with %d elements", id, x, got, want, len(p.m))
	}
}

// set sets an element of both.
func (p *pair[T]) set(id uint32, x T) {
	p.Helper()
	_, ok := p.m[id]
	if ok {
		p.m[id] = x
	}
	if got := p.table.Set(id, x); got != ok {
		p.Fatalf("Set(%d, %v) is %t, with %d elements", id, x, got, len(p.m))
	}
}

// get gets an element of both.
func (p *pair[T]) get(id uint32) {
	p.Helper()
	want, ok := p.m[id]
	if x, is := p.table.Get(id); x != want || is != ok {
		p.Fatalf("Get(%d) is %v, %t, not %v, %t", id, x, is, want, ok)
	}
}

// drop drops an element of both.
func (p *pair[T]) drop(id uint32) {
	p.Helper()
	want, ok := p.m[id]
	delete(p.m, id)
	if x, is := p.table.Drop(id); x != want || is != ok {
		p.Fatalf("Drop(%d) is %v, %t, not %v, %t", id, x, is, want, ok)
	}
}

// check tells whether a table holds what it should, by all that it answers of
// these and of some other numbers.
func (p *pair[T]) check() {
	p.Helper()
	ids := slices.Sorted(maps.Keys(p.m))
	if got := p.table.Len(); got != len(ids) {
		p.Fatalf("Len is %d, not %d", got, len(ids))
	}
	if got := p.table.IDs(); !slices.Equal(got, ids) {
		p.Fatalf("IDs is %v, not %v", got, ids)
	}
	i := 0
	for id, x := range p.table.Each {
		if i == len(ids) || id != ids[i] || x != p.m[id] {
			p.Fatalf("number %d of Each is %d, %v, in %v", i, id, x, p.m)
		}
		i++
	}
	if i != len(ids) {
		p.Fatalf("Each tells %d elements, not %d", i, len(ids))
	}
	for _, id := range []uint32{0, 1, 1 << 16, 1 << 31, last - 1, last} {
		p.get(id)
	}
	for _, id := range ids {
		p.get(id - 1)
		p.get(id)
		p.get(id + 1)
	}
}

// 15.1
func TestNew(t *testing.T) {
	for _, room := range []int{1, 2, 1000, api.MaxPackets - 1, api.MaxPackets} {
		newPair[string](t, room).check()
	}
	for _, room := range []int{0, -1, -4096, api.MaxPackets + 1, api.MaxRing, 1 << 32, math.MinInt, math.MaxInt} {
		if x, err := New[string](room); x != nil || err != api.ErrCaps {
			t.Errorf("New(%d) is %v, %d", room, x, err)
		}
	}
}

// 15.1, 15.2, the chapter's example.
func TestExample(t *testing.T) {
	x := newTable[string](t, 2)
	if a, b := x.Put(7, "a"), x.Put(3, "b"); a != api.OK || b != api.OK {
		t.Errorf("Put is %d and %d", a, b)
	}
	if l := x.IDs(); !slices.Equal(l, []uint32{3, 7}) {
		t.Errorf("IDs is %v", l)
	}
	if s, ok := x.Drop(7); s != "a" || !ok {
		t.Errorf("Drop(7) is %q, %t", s, ok)
	}
	if err := x.Put(7, "c"); err != api.OK {
		t.Errorf("Put is %d after Drop", err)
	}
	if s, ok := x.Get(7); s != "c" || !ok {
		t.Errorf("Get(7) is %q, %t", s, ok)
	}
}

// 15.1: steps worked out by hand.
func TestPut(t *testing.T) {
	x := newTable[string](t, 3)
	for _, s := range []struct {
		id   uint32
		x    string
		want api.Errno
	}{
		{5, "a", api.OK}, {5, "b", api.ErrThere}, {last, "c", api.OK}, {last, "d", api.ErrThere}, {5, "e", api.ErrThere},
		{0, "f", api.OK}, {1, "g", api.ErrFull}, {last - 1, "h", api.ErrFull},
		// ErrThere comes ahead of ErrFull.
		{0, "i", api.ErrThere}, {5, "j", api.ErrThere}, {last, "k", api.ErrThere}, {4, "l", api.ErrFull}, {6, "m", api.ErrFull},
	} {
		if err := x.Put(s.id, s.x); err != s.want {
			t.Errorf("Put(%d, %q) is %d, not %d", s.id, s.x, err, s.want)
		}
	}
	// What is there was not replaced by what was refused.
	for id, want := range map[uint32]string{0: "f", 5: "a", last: "c"} {
		if s, ok := x.Get(id); s != want || !ok {
			t.Errorf("Get(%d) is %q, %t", id, s, ok)
		}
	}
	if l := x.IDs(); !slices.Equal(l, []uint32{0, 5, last}) || x.Len() != 3 {
		t.Errorf("IDs is %v, Len is %d", l, x.Len())
	}
}

// 15.1: numbers that are there, and those next to them.
func TestSetGetDrop(t *testing.T) {
	for _, ids := range [][]uint32{{}, {0}, {last}, {0, last}, {7}, {3, 5}, {5, 6, 7}, {0, 1, last - 1, last}, {1 << 16, 1, 0, 1 << 31}} {
		p := newPair[int](t, 5)
		all := []uint32{0, 1, 2, 3, 4, 5, 6, 7, 8, 1 << 16, 1 << 31, last - 1, last}
		for i, id := range ids {
			p.put(id, i+1)
		}
		for i, id := range all {
			p.set(id, i+100)
			p.check()
		}
		// Without its element a number is as one that never was there.
		for _, id := range all {
			p.drop(id)
			p.drop(id)
			p.set(id, 9)
			p.get(id)
			p.check()
		}
		if p.table.Len() != 0 {
			t.Errorf("%d elements stay when all were dropped", p.table.Len())
		}
	}
}

// 15.1: numbers differ if any bit of them does.
func TestBits(t *testing.T) {
	p := newPair[int](t, 33)
	p.put(0, -1)
	for bit := range 32 {
		p.put(1<<bit, bit)
		p.check()
	}
	for bit := range 32 {
		p.drop(1 << bit)
		p.check()
	}
}

// 15.1: an element can be the zero value, and then is there.
func TestZeroElement(t *testing.T) {
	p := newPair[int](t, 2)
	p.put(0, 0)
	p.put(4, 7)
	p.set(4, 0)
	p.check()
	if x, ok := p.table.Get(0); x != 0 || !ok {
		t.Errorf("Get(0) is %d, %t", x, ok)
	}
	p.put(0, 1)
	p.put(4, 1)
	p.put(5, 1)
	if x, ok := p.table.Drop(4); x != 0 || !ok {
		t.Errorf("Drop(4) is %d, %t", x, ok)
	}
}

// 15.1
func TestRoomOfOne(t *testing.T) {
	p := newPair[string](t, 1)
	for _, id := range []uint32{0, last, 5, 5, 4, 6} {
		p.put(id, "a")
		p.put(id, "b")
		p.put(id+1, "c")
		p.put(id-1, "d")
		p.check()
		p.set(id+1, "e")
		p.set(id, "f")
		p.check()
		p.drop(id - 1)
		p.drop(id)
		p.drop(id)
		p.check()
	}
}

// 15.1: a full table takes one more element for each one that was dropped, also
// when more were put than there is room.
func TestFull(t *testing.T) {
	for _, room := range []int{1, 2, 3, 64, api.MaxPackets - 1, api.MaxPackets} {
		p := newPair[int](t, room)
		id := func(i int) uint32 { return uint32(i) * 0x9E3779B1 }
		for i := range room {
			p.put(id(i), i)
		}
		p.check()
		for i := range 2*room + 10 {
			p.put(id(room+i), -1)
			p.put(id(i+room-1), -2)
			p.set(id(room+i), -3)
			p.drop(id(room + i))
			p.drop(id(i))
			if n := p.table.Len(); n != room-1 {
				t.Fatalf("Len is %d with a room of %d", n, room)
			}
			p.put(id(room+i), i)
			if i%(room/2+1) == 0 {
				p.check()
			}
		}
		p.check()
	}
}

// 15.2: numbers are told in increasing order, in whichever order they were put.
func TestOrder(t *testing.T) {
	orders := map[string][]uint32{
		"rising":  {0, 1, 2, 3, 1 << 15, 1 << 16, 1 << 31, last - 1, last},
		"falling": {last, last - 1, 1 << 31, 1 << 16, 1 << 15, 3, 2, 1, 0},
		"inward":  {0, last, 1, last - 1, 2, 1 << 31, 3, 1 << 16, 1 << 15},
		"outward": {1 << 15, 1 << 16, 3, 1 << 31, 2, last - 1, 1, last, 0},
	}
	for name, order := range orders {
		t.Run(name, func(t *testing.T) {
			for _, gone := range orders {
				p := newPair[uint32](t, len(order))
				for _, id := range order {
					p.put(id, id^5)
					p.check()
				}
				// Numbers that are dropped and put again come where they were.
				for i, id := range gone {
					p.drop(id)
					p.check()
					if i%2 == 1 {
						p.put(id, id^6)
						p.put(gone[i-1], 77)
						p.check()
					}
				}
			}
		})
	}
}

// 15.1 to 15.3: all sequences of few turns with few numbers.
func TestAllSequences(t *testing.T) {
	const turns = 5
	ids := [3]uint32{0, 6, last}
	for room := 1; room <= 3; room++ {
		for k := range 59049 { // 9 to the number of turns
			p := newPair[int](t, room)
			for i := range turns {
				switch id := ids[k%3]; k / 3 % 3 {
				case 0:
					p.put(id, i+1)
				case 1:
					p.set(id, i+1)
				case 2:
					p.drop(id)
				}
				k /= 9
				for _, id := range ids {
					p.get(id)
				}
			}
			p.check()
		}
	}
}

// 15.1 to 15.3, with many turns, against a plain map.
func TestMany(t *testing.T) {
	for _, room := range []int{1, 2, 7, 64, 1000, api.MaxPackets} {
		for _, numbers := range []uint64{2, uint64(room) + 1, 2 * uint64(room), 1 << 32} {
			p := newPair[uint64](t, room)
			seed := uint64(room) + numbers
			var known []uint32 // numbers that were put at some time
			for i := range 6 * (room + 30) {
				seed = seed*6364136223846793005 + 1442695040888963407
				id := uint32(seed >> 20 % numbers * (1 << 32 / numbers))
				if len(known) > 0 && seed>>60%3 > 0 {
					id = known[seed>>16%uint64(len(known))]
				}
				// The table is filled and emptied by turns.
				switch turn := seed >> 40 % 8; {
				case turn < uint64(2+4*(i/(2*room)%2)):
					p.put(id, seed)
					known = append(known, id)
				case turn < 7:
					p.drop(id)
				default:
					p.set(id, seed)
				}
				p.get(id)
				if i%(room/4+1) == 0 {
					p.check()
				}
			}
			p.check()
		}
	}
}

// 15.3: whatever is done with others, an element stays under its number.
func TestStays(t *testing.T) {
	const room = 40
	p := newPair[string](t, room)
	p.put(1<<20, "stays")
	seed := uint64(15)
	for i := range 4000 {
		seed = seed*6364136223846793005 + 1442695040888963407
		id := uint32(1<<20 - 40 + seed>>40%81)
		if id == 1<<20 {
			p.put(id, "no")
			continue
		}
		switch i / 200 % 3 {
		case 0:
			p.put(id, "other")
		case 1:
			p.set(id, "another")
		case 2:
			p.drop(id)
		}
		if x, ok := p.table.Get(1 << 20); x != "stays" || !ok {
			t.Fatalf("Get is %q, %t after turn %d", x, ok, i)
		}
	}
	p.check()
}

// 15.2: yield is not called again after it returned false.
func TestEachEnds(t *testing.T) {
	for _, n := range []int{0, 1, 2, 5, 100, api.MaxPackets} {
		p := newPair[int](t, api.MaxPackets)
		for i := range n {
			p.put(uint32(n-1-i)*1000, n-1-i)
		}
		for _, end := range []int{0, 1, n / 2, n - 2, n - 1, n, n + 1} {
			calls := 0
			p.table.Each(func(id uint32, x int) bool {
				if id != uint32(calls)*1000 || x != calls {
					t.Errorf("call %d of yield has %d, %d", calls, id, x)
				}
				calls++
				return calls-1 != end
			})
			want := n
			if end >= 0 && end < n {
				want = end + 1
			}
			if calls != want {
				t.Errorf("yield was called %d times, not %d, of %d elements", calls, want, n)
			}
		}
		p.check()
	}
}

// 15.2: the numbers and elements can be asked for while Each tells them.
func TestEachWithin(t *testing.T) {
	p := newPair[int](t, 9)
	for i := range 9 {
		p.put(uint32(i*5%9), i)
	}
	for id, x := range p.table.Each {
		for other, y := range p.table.Each {
			if (other == id) != (x == y) {
				t.Errorf("%d is under %d, and %d under %d", x, id, y, other)
			}
		}
		p.get(id)
		p.check()
	}
}

// P1: there may be no yield.
func TestNoYield(t *testing.T) {
	p := newPair[int](t, 3)
	p.table.Each(nil)
	p.put(1, 2)
	p.table.Each(nil)
	p.check()
}

// P1: a yield that changes the table has no meaning, but Each ends, and the
// table still works.
func TestEachChanged(t *testing.T) {
	for turn := range 3 {
		p := newPair[int](t, 8)
		for i := range 5 {
			p.put(uint32(i*10), i)
		}
		next := uint32(100)
		for id := range p.table.Each {
			switch turn {
			case 0:
				p.drop(id)
			case 1:
				p.put(next, 1)
			case 2:
				p.drop(id)
				p.put(next, 1)
				p.drop(next - 1)
			}
			next++
		}
		p.check()
	}
}

// Ownership: what IDs returned shares nothing with the table.
func TestIDs(t *testing.T) {
	p := newPair[int](t, 9)
	for i, id := range []uint32{9, 2, last, 0, 7, 4} {
		p.put(id, i)
		l, again := p.table.IDs(), p.table.IDs()
		for k := range l {
			l[k] = 1000 + uint32(k)
		}
		_ = append(l, 77)
		if !slices.Equal(again, slices.Sorted(maps.Keys(p.m))) {
			t.Errorf("IDs is %v after another one was changed, in %v", again, p.m)
		}
		p.check()
		kept := slices.Clone(again)
		p.put(5, 5)
		p.drop(again[0])
		p.put(again[0], 6)
		p.drop(5)
		if !slices.Equal(again, kept) {
			t.Errorf("IDs that were %v became %v", kept, again)
		}
		p.check()
	}
}

// P2: tables know nothing of each other.
func TestTwoTables(t *testing.T) {
	a, b := newPair[int](t, 3), newPair[int](t, 4)
	for i := range uint32(60) {
		a.put(i*3%7, int(i))
		b.put(i*2%7, -int(i))
		if i%3 > 0 {
			a.drop(i % 7)
		}
		if i%4 > 0 {
			b.drop(i * 5 % 7)
		}
		a.set(i%5, 100)
		b.set(i%4, 200)
		a.check()
		b.check()
	}
}

// checkType does some turns with elements of a type.
func checkType[T comparable](t *testing.T, x, y, z T) {
	t.Helper()
	p := newPair[T](t, 2)
	p.put(4, x)
	p.put(1, y)
	p.put(9, z)
	p.check()
	p.set(4, z)
	p.drop(1)
	p.drop(1)
	p.check()
	p.put(9, y)
	p.set(3, x)
	p.check()
}

// 15.1 to 15.3, with elements of several types.
func TestTypes(t *testing.T) {
	a, b, c := 1, 2, 2
	checkType(t, a, b, 0)
	checkType(t, "a", "", "\x00\xff")
	checkType(t, &a, &b, &c)
	checkType(t, nil, &b, &c)
	checkType(t, api.Packet{Flow: 1}, api.Packet{ID: 1}, api.Packet{Len: 1})
	checkType(t, [2]bool{true}, [2]bool{}, [2]bool{false, true})
	checkType(t, struct{}{}, struct{}{}, struct{}{})
	checkType[any](t, 1, "a", nil)

	// Of a pointer, and of a list, the table holds what it was given.
	lists := newTable[[]int](t, 2)
	l := []int{1, 2}
	lists.Put(3, l)
	l[0] = 5
	if got, ok := lists.Get(3); !ok || !slices.Equal(got, []int{5, 2}) {
		t.Errorf("Get is %v, %t", got, ok)
	}
	if got, ok := lists.Get(4); ok || got != nil {
		t.Errorf("Get is %v, %t", got, ok)
	}
}

// 15.2, P1: tables that New did not make store nothing.
func TestNotMade(t *testing.T) {
	refused, _ := New[string](0)
	for _, x := range []*Table[string]{nil, {}, new(Table[string]), refused} {
		for range 3 {
			for _, id := range []uint32{0, 1, last} {
				if err := x.Put(id, "a"); err != api.ErrNil {
					t.Errorf("Put is %d", err)
				}
				s, got := x.Get(id)
				d, dropped := x.Drop(id)
				if x.Set(id, "b") || got || dropped || s != "" || d != "" {
					t.Errorf("%d is in a table that New did not make", id)
				}
			}
			if x.Len() != 0 || len(x.IDs()) != 0 {
				t.Errorf("Len is %d, IDs is %v", x.Len(), x.IDs())
			}
			x.Each(func(uint32, string) bool {
				t.Error("yield is called")
				return true
			})
			x.Each(nil)
		}
	}
}

// P1: a table that is copied as a value is none that New made, but doesn't
// panic.
func TestCopied(t *testing.T) {
	a := newTable[int](t, 3)
	b := *a
	for i := range uint32(60) {
		x := a
		if i%7 < 4 {
			x = &b
		}
		x.Put(i%5, 1)
		x.Set(i%3, 2)
		x.Get(i % 4)
		x.IDs()
		x.Len()
		if i%3 > 0 {
			x.Drop(i * i % 5)
		}
	}
}

// put puts an element that nothing else points to.
func put(x *Table[*[64]byte], id uint32) weak.Pointer[[64]byte] {
	p := new([64]byte)
	x.Put(id, p)
	return weak.Make(p)
}

// 15.1: an element that was dropped or replaced is not kept.
func TestMemory(t *testing.T) {
	x := newTable[*[64]byte](t, 8)
	var gone []weak.Pointer[[64]byte]
	for id := range uint32(8) {
		gone = append(gone, put(x, id*5%8))
	}
	for _, id := range []uint32{7, 0, 3} {
		x.Drop(id)
	}
	for _, id := range []uint32{1, 2, 4, 5, 6} {
		x.Set(id, nil)
	}
	runtime.GC()
	for i, p := range gone {
		if p.Value() != nil {
			t.Errorf("element %d is kept", i)
		}
	}
	runtime.KeepAlive(x)
}
