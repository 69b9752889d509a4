package trie

import (
	"cmp"
	"math"
	"runtime"
	"slices"
	"testing"
	"weak"

	"pacemaker/addr"
	"pacemaker/api"
)

const last = math.MaxUint32

// both is a table, and what it should be: a plain list.
type both[T comparable] struct {
	t     *testing.T
	table *Table[T]
	list  []route[T]
}

// route is a prefix with its element.
type route[T any] struct {
	p api.Prefix
	x T
}

// newBoth makes an empty table.
func newBoth[T comparable](t *testing.T) *both[T] {
	t.Helper()
	b := &both[T]{t: t, table: New[T]()}
	if b.table == nil {
		t.Fatal("New is nil")
	}
	b.check()
	return b
}

// index returns where a prefix is in the list, or -1.
func (b *both[T]) index(p api.Prefix) int {
	return slices.IndexFunc(b.list, func(r route[T]) bool { return r.p == p })
}

// put puts an element into both, and returns the error.
func (b *both[T]) put(p api.Prefix, x T) api.Errno {
	b.t.Helper()
	want := api.OK
	switch {
	case !addr.Right(p):
		want = api.ErrArg
	case b.index(p) >= 0:
		want = api.ErrThere
	case len(b.list) == 4096:
		want = api.ErrFull
	default:
		b.list = append(b.list, route[T]{p, x})
	}
	if err := b.table.Put(p, x); err != want {
		b.t.Fatalf("Put(%v, %v) is %d, not %d", p, x, err, want)
	}
	return want
}

// get tells whether the table has what it should have under a prefix.
func (b *both[T]) get(p api.Prefix) {
	b.t.Helper()
	var want T
	i := b.index(p)
	if i >= 0 {
		want = b.list[i].x
	}
	if x, ok := b.table.Get(p); x != want || ok != (i >= 0) {
		b.t.Fatalf("Get(%v) is %v, %t, not %v", p, x, ok, want)
	}
}

// drop drops an element from both, and returns whether there was one.
func (b *both[T]) drop(p api.Prefix) bool {
	b.t.Helper()
	var want T
	i := b.index(p)
	if i >= 0 {
		want = b.list[i].x
		b.list = slices.Delete(b.list, i, i+1)
	}
	if x, ok := b.table.Drop(p); x != want || ok != (i >= 0) {
		b.t.Fatalf("Drop(%v) is %v, %t, not %v", p, x, ok, want)
	}
	return i >= 0
}

// find tells whether the table finds what it should, and returns it.
func (b *both[T]) find(a uint32) (api.Prefix, T, bool) {
	b.t.Helper()
	want, found := route[T]{p: api.Prefix{Bits: -1}}, false
	for _, r := range b.list {
		if r.p.Bits > want.p.Bits && addr.Has(r.p, a) {
			want, found = r, true
		}
	}
	if !found {
		want.p = api.Prefix{}
	}
	p, x, ok := b.table.Find(a)
	if p != want.p || x != want.x || ok != found {
		b.t.Fatalf("Find(%s) is %v, %v, %t, not %v, %v", addr.Put(a), p, x, ok, want.p, want.x)
	}
	return p, x, ok
}

// finds tells whether this prefix is found for an address.
func (b *both[T]) finds(a uint32, want api.Prefix) {
	b.t.Helper()
	if p, _, ok := b.find(a); p != want || !ok {
		b.t.Fatalf("Find(%s) is %v, %t, not %v", addr.Put(a), p, ok, want)
	}
}

// findsNone tells whether no prefix is found for addresses.
func (b *both[T]) findsNone(l ...uint32) {
	b.t.Helper()
	for _, a := range l {
		if p, _, ok := b.find(a); ok {
			b.t.Fatalf("Find(%s) is %v", addr.Put(a), p)
		}
	}
}

// check tells whether the table is what it should be: its size, all prefixes,
// and what is found at both ends of each of them and right outside it.
func (b *both[T]) check() {
	b.t.Helper()
	b.checkList()
	b.find(0)
	b.find(last)
	for _, r := range b.list {
		b.get(r.p)
		b.around(r.p)
	}
}

// around finds the addresses at both ends of a prefix, and right outside it.
func (b *both[T]) around(p api.Prefix) {
	b.t.Helper()
	end := p.Addr | ^addr.Mask(p.Bits)
	for _, a := range []uint32{p.Addr - 1, p.Addr, p.Addr + 1, end - 1, end, end + 1} {
		b.find(a)
	}
}

// checkList tells whether the table has the right size and prefixes.
func (b *both[T]) checkList() {
	b.t.Helper()
	if n := b.table.Len(); n != len(b.list) {
		b.t.Fatalf("Len is %d, not %d", n, len(b.list))
	}
	var want []api.Prefix
	for _, r := range b.list {
		want = append(want, r.p)
	}
	slices.SortFunc(want, func(p, q api.Prefix) int {
		return cmp.Or(cmp.Compare(p.Addr, q.Addr), cmp.Compare(p.Bits, q.Bits))
	})
	if got := b.table.All(); !slices.Equal(got, want) {
		b.t.Fatalf("All is %v, not %v", got, want)
	}
}

// prefix returns the first bits of an address as a prefix.
func prefix(a uint32, bits int) api.Prefix {
	return api.Prefix{Addr: a & addr.Mask(bits), Bits: bits}
}

// parse returns the prefix of a text.
func parse(t *testing.T, s string) api.Prefix {
	t.Helper()
	p, err := addr.ReadPrefix(s)
	if err != api.OK {
		t.Fatalf("ReadPrefix(%q) is %d", s, err)
	}
	return p
}

// random returns a function whose result is less than n.
func random(seed uint64) func(n uint32) uint32 {
	return func(n uint32) uint32 {
		seed = seed*6364136223846793005 + 1442695040888963407
		return uint32(seed>>33) % n
	}
}

// wrong are prefixes that are not right.
func wrong() []api.Prefix {
	return []api.Prefix{
		{Bits: -1}, {Bits: 33}, {Bits: 64}, {Addr: 1}, {Addr: 1 << 31}, {Addr: 1, Bits: 31}, {Addr: 10<<24 + 1<<23, Bits: 8}, {Addr: last, Bits: 33},
		{Addr: last, Bits: -1}, {Addr: 10 << 24, Bits: 6}, {Bits: math.MinInt}, {Bits: math.MaxInt}, {Bits: 1 << 32}, {Addr: 10 << 24, Bits: 1<<32 + 8},
	}
}

// 32.2, the chapter's example.
func TestExample(t *testing.T) {
	b := newBoth[string](t)
	eight, sixteen := parse(t, "10.0.0.0/8"), parse(t, "10.1.0.0/16")
	b.put(eight, "a")
	b.put(sixteen, "b")
	b.finds(10<<24+1<<16+2<<8+3, sixteen)
	b.drop(sixteen)
	b.finds(10<<24+1<<16+2<<8+3, eight)
}

// 32.1, 32.2: the prefix of no bits has all addresses.
func TestNoBits(t *testing.T) {
	b := newBoth[string](t)
	b.findsNone(0, 1, 1<<31-1, 1<<31, last)
	for range 2 {
		b.get(api.Prefix{})
		b.put(api.Prefix{}, "a")
		b.check()
		b.put(api.Prefix{}, "b")
		for _, a := range []uint32{0, 1, 1<<31 - 1, 1 << 31, last} {
			b.finds(a, api.Prefix{})
		}
		b.put(prefix(1<<31, 1), "c")
		b.put(prefix(0, 1), "d")
		b.finds(last, prefix(1<<31, 1))
		b.finds(1<<31, prefix(1<<31, 1))
		b.finds(1<<31-1, prefix(0, 1))
		b.check()
		b.drop(prefix(0, 1))
		b.finds(1<<31-1, api.Prefix{})
		b.drop(api.Prefix{})
		b.check()
		b.findsNone(0, 1<<31-1)
		b.drop(prefix(1<<31, 1))
		b.check()
		b.findsNone(0, 1<<31-1, 1<<31, last)
	}
}

// 32.1, 32.2: prefixes of all bits, among them the first and the last address.
func TestAllBits(t *testing.T) {
	b := newBoth[uint32](t)
	l := []uint32{last, 0, 7, 6, 8, 1 << 31, 1<<31 - 1, last - 1, 1, 10 << 24}
	for _, a := range l {
		b.findsNone(a)
		b.put(prefix(a, 32), a)
		b.finds(a, api.Prefix{Addr: a, Bits: 32})
		b.check()
	}
	for _, a := range l {
		b.drop(prefix(a, 32))
		b.findsNone(a)
		b.check()
	}
}

// 32.1, 32.2: prefixes of all numbers of bits of an address: each begins with
// those that are shorter.
func TestChain(t *testing.T) {
	for _, a := range []uint32{0, last, 10<<24 + 5, 0x55555555, 0xaaaaaaaa} {
		for _, step := range []int{1, 5, 16, 32} {
			b := newBoth[int](t)
			for i := range 33 {
				bits := i * step % 33
				b.put(prefix(a, bits), bits)
				b.check()
			}
			// The address with the bit that follows changed is had by those with no
			// more bits.
			for bits := range 32 {
				b.finds(a^1<<(31-bits), prefix(a, bits))
			}
			b.finds(a, prefix(a, 32))
			for i := range 33 {
				bits := i * (33 - step) % 33
				b.drop(prefix(a, bits))
				b.drop(prefix(a, bits))
				b.check()
			}
		}
	}
}

// 32.1, 32.2: two prefixes that differ in one bit only, wherever it is.
func TestOneBit(t *testing.T) {
	for bits := 1; bits <= 32; bits++ {
		for at := range bits {
			for _, a := range []uint32{0, last, 0x12345678} {
				p, q := prefix(a, bits), prefix(a^1<<(31-at), bits)
				for _, l := range [][]api.Prefix{{p, q}, {q, p}} {
					b := newBoth[int](t)
					b.put(l[0], 1)
					b.get(l[1])
					b.findsNone(l[1].Addr)
					b.put(l[1], 2)
					b.check()
					// What only lies between both, and above them, is not there.
					for n := range 33 {
						b.get(prefix(a, n))
						if n != bits {
							b.drop(prefix(a, n))
						}
					}
					b.check()
					b.drop(l[0])
					b.check()
					b.findsNone(l[0].Addr)
					b.put(l[0], 3)
					b.check()
				}
			}
		}
	}
}

// 32.1: a prefix of which two others are the halves, put before them, between
// them and after them.
func TestBetween(t *testing.T) {
	for bits := range 32 {
		top := prefix(0xdeadbeef, bits)
		left := api.Prefix{Addr: top.Addr, Bits: bits + 1}
		right := api.Prefix{Addr: top.Addr | 1<<(31-bits), Bits: bits + 1}
		l := []api.Prefix{top, left, right}
		for _, in := range [][]int{{0, 1, 2}, {0, 2, 1}, {1, 0, 2}, {1, 2, 0}, {2, 0, 1}, {2, 1, 0}} {
			for _, out := range [][]int{{0, 1, 2}, {1, 0, 2}, {1, 2, 0}, {2, 1, 0}} {
				b := newBoth[int](t)
				for _, i := range in {
					b.get(l[i])
					b.drop(l[i])
					b.put(l[i], i)
					b.put(l[i], 9)
					b.check()
				}
				for _, i := range out {
					b.drop(l[i])
					b.get(l[i])
					b.drop(l[i])
					b.check()
				}
				for _, i := range in {
					b.put(l[i], 10+i)
					b.check()
				}
			}
		}
	}
}

// 32.1: what is not right is refused, and is never there.
func TestWrong(t *testing.T) {
	b := newBoth[string](t)
	for range 2 {
		for _, p := range wrong() {
			if err := b.put(p, "x"); err != api.ErrArg {
				t.Errorf("Put(%v) is %d", p, err)
			}
			b.get(p)
			b.drop(p)
		}
		b.check()
		b.put(api.Prefix{}, "a")
		b.put(prefix(10<<24, 8), "b")
		b.put(prefix(0, 32), "c")
		b.put(prefix(last, 32), "d")
		b.put(prefix(0, 31), "e")
	}
}

// 32.1: an element that is there stays as it is, if another one is put.
func TestThere(t *testing.T) {
	b := newBoth[string](t)
	for _, p := range []api.Prefix{{}, prefix(10<<24, 8), prefix(10<<24, 9), prefix(10<<24, 32)} {
		b.put(p, "a")
		for _, x := range []string{"b", "a", ""} {
			if err := b.put(p, x); err != api.ErrThere {
				t.Errorf("Put(%v, %q) is %d", p, x, err)
			}
			if x, ok := b.table.Get(p); x != "a" || !ok {
				t.Errorf("Get(%v) is %q, %t", p, x, ok)
			}
		}
		b.check()
	}
}

// fill puts elements under 4096 prefixes, the k-th with the element k.
func fill(b *both[int], at func(k int) api.Prefix) {
	b.t.Helper()
	for k := range 4096 {
		if err := b.put(at(k), k); err != api.OK {
			b.t.Fatalf("Put of prefix %d is %d", k, err)
		}
	}
	b.checkList()
}

// 32.1: there is room for MaxRoutes elements, whatever their prefixes are. A
// wrong prefix, and one that is there, come before what is full.
func TestFull(t *testing.T) {
	if MaxRoutes != 4096 {
		t.Errorf("MaxRoutes is %d", MaxRoutes)
	}
	for name, at := range map[string]func(k int) api.Prefix{
		"ends":   func(k int) api.Prefix { return prefix(uint32(k), 32) },
		"starts": func(k int) api.Prefix { return prefix(uint32(k)<<20, 12) },
		"spread": func(k int) api.Prefix { return prefix(uint32(k)*0x9e3779b1, 20+k%13) },
		"chains": func(k int) api.Prefix { return prefix(uint32(k/25)<<24+0x9e3779, 8+k%25) },
	} {
		t.Run(name, func(t *testing.T) {
			b := newBoth[int](t)
			fill(b, at)
			other := prefix(0xfedcba98, 30)
			for range 2 {
				if b.put(other, 1) != api.ErrFull || b.put(api.Prefix{}, 1) != api.ErrFull {
					t.Fatal("there is room")
				}
				if b.put(at(4095), 1) != api.ErrThere || b.put(at(0), 1) != api.ErrThere || b.put(api.Prefix{Addr: 1}, 1) != api.ErrArg {
					t.Fatal("another error")
				}
				b.checkList()
				b.around(other)
				b.around(at(9))
			}
			b.drop(at(77))
			if b.put(other, 5) != api.OK || b.put(at(77), 6) != api.ErrFull {
				t.Fatal("room for one")
			}
			b.drop(api.Prefix{})
			b.drop(other)
			if b.put(at(77), 7) != api.OK || b.put(other, 8) != api.ErrFull {
				t.Fatal("room for one")
			}
			for k := range 4096 {
				if k%16 == 0 {
					b.around(at(k))
				}
				b.drop(at(k))
			}
			b.checkList()
			if b.table.Len() != 0 {
				t.Fatal("the table is not empty")
			}
			fill(b, at)
		})
	}
}

// 32.1, 32.2: all sequences of few turns with few prefixes.
func TestAllSequences(t *testing.T) {
	prefixes := []api.Prefix{{}, prefix(0, 1), prefix(1<<31, 1), prefix(1<<31, 2), prefix(3<<30, 2), prefix(last, 32)}
	const turns = 5
	for k := range 12 * 12 * 12 * 12 * 12 {
		b := newBoth[int](t)
		for i := range turns {
			p := prefixes[k%6]
			if k/6%2 == 0 {
				b.put(p, i)
			} else {
				b.drop(p)
			}
			k /= 12
		}
		b.checkList()
		for _, p := range prefixes {
			b.get(p)
			b.around(p)
		}
	}
}

// 32.1, 32.2, with long rows of turns, against a plain list.
func TestMany(t *testing.T) {
	for seed := range uint64(24) {
		next := random(seed)
		b := newBoth[uint32](t)
		// near are the addresses that prefixes are of.
		near := func() uint32 {
			switch seed % 4 {
			case 0:
				return next(8) << 29
			case 1:
				return next(16)
			case 2:
				return 10<<24 + next(4)<<16 + next(4)<<8 + next(4)
			}
			return next(1<<31) << next(2)
		}
		most := []int{3, 20, 100, 300}[seed/4%4]
		for i := range 3000 {
			p := prefix(near(), int(next(33)))
			if n := uint32(len(b.list)); n > 0 && next(3) == 0 {
				p = b.list[next(n)].p
			}
			switch {
			case next(50) == 0:
				b.put(wrong()[next(14)], 1)
			case int(next(uint32(most))) >= len(b.list):
				b.put(p, next(5))
			default:
				b.drop(p)
			}
			b.get(p)
			b.around(p)
			b.find(near())
			if i%50 == 0 {
				b.check()
			}
		}
		for len(b.list) > 0 {
			b.drop(b.list[0].p)
			b.checkList()
		}
	}
}

// 32.3: what is found for an address stays as it is while prefixes come and go
// that do not have the address.
func TestOthers(t *testing.T) {
	for seed := range uint64(30) {
		next := random(seed)
		b := newBoth[uint32](t)
		a := next(1<<31) << 1
		for range seed % 5 {
			b.put(prefix(a, int(next(33))), next(100))
		}
		p, x, ok := b.find(a)
		for range 600 {
			// A prefix that begins as the address does, and differs then.
			same := int(next(32))
			differs := a ^ 1<<(31-same) ^ next(1<<31)>>same
			q := prefix(differs, same+1+int(next(uint32(32-same))))
			if addr.Has(q, a) {
				t.Fatalf("%v has %d", q, a)
			}
			b.put(q, next(100))
			if i := next(uint32(len(b.list))); next(2) == 0 && !addr.Has(b.list[i].p, a) {
				b.drop(b.list[i].p)
			}
			if gotP, gotX, got := b.table.Find(a); gotP != p || gotX != x || got != ok {
				t.Fatalf("Find is %v, %d, %t, not %v, %d, %t", gotP, gotX, got, p, x, ok)
			}
		}
		b.check()
	}
}

// 32.1: a zero value is an element as others are.
func TestZero(t *testing.T) {
	b := newBoth[int](t)
	p, q := prefix(10<<24, 8), prefix(10<<24, 16)
	b.put(p, 7)
	b.put(q, 0)
	b.check()
	b.finds(10<<24, q)
	if b.put(q, 1) != api.ErrThere {
		t.Error("Put over a zero value")
	}
	if x, ok := b.table.Drop(q); x != 0 || !ok {
		t.Errorf("Drop is %d, %t", x, ok)
	}
	b.list = b.list[:1]
	b.check()
	b.finds(10<<24, p)
}

// checkType does some turns with elements of a type.
func checkType[T comparable](t *testing.T, x, y, z T) {
	t.Helper()
	b := newBoth[T](t)
	b.put(prefix(10<<24, 8), x)
	b.put(prefix(10<<24, 16), y)
	b.put(prefix(0, 1), z)
	b.check()
	b.put(prefix(10<<24, 8), z)
	b.drop(prefix(10<<24, 16))
	b.drop(prefix(10<<24, 9))
	b.check()
	b.findsNone(last)
	b.put(prefix(10<<24, 16), x)
	b.check()
}

// 32.1, 32.2, with elements of several types.
func TestTypes(t *testing.T) {
	i, j := 1, 2
	checkType(t, i, j, 0)
	checkType(t, "a", "", "\x00\xff")
	checkType(t, &i, nil, &j)
	checkType(t, api.Prefix{Bits: 1}, api.Prefix{}, api.Prefix{Addr: 1})
	checkType(t, [2]bool{true}, [2]bool{}, [2]bool{false, true})
	checkType(t, struct{}{}, struct{}{}, struct{}{})
	checkType[any](t, 1, "a", nil)

	// Of a list, the table holds what it was given.
	lists := New[[]int]()
	l := []int{1, 2}
	lists.Put(api.Prefix{}, l)
	l[0] = 5
	if _, got, ok := lists.Find(9); !ok || !slices.Equal(got, []int{5, 2}) {
		t.Errorf("Find is %v, %t", got, ok)
	}
	if got, ok := lists.Get(prefix(0, 1)); ok || got != nil {
		t.Errorf("Get is %v, %t", got, ok)
	}
	funcs := New[func() int]()
	funcs.Put(prefix(3, 32), func() int { return 3 })
	if _, f, ok := funcs.Find(3); !ok || f() != 3 {
		t.Error("Find of a function")
	}
}

// 32.2, P1: tables that New did not make store nothing.
func TestNotMade(t *testing.T) {
	for _, x := range []*Table[string]{nil, {}, new(Table[string])} {
		for range 2 {
			for _, p := range append(wrong(), api.Prefix{}, prefix(10<<24, 8), prefix(0, 32), prefix(last, 32)) {
				if err := x.Put(p, "a"); err != api.ErrNil {
					t.Errorf("Put(%v) is %d", p, err)
				}
				s, got := x.Get(p)
				d, dropped := x.Drop(p)
				q, f, found := x.Find(p.Addr)
				if got || dropped || found || s+d+f != "" || q != (api.Prefix{}) {
					t.Errorf("%v is in a table that New did not make", p)
				}
				if x.Len() != 0 || len(x.All()) != 0 {
					t.Errorf("Len is %d, All is %v", x.Len(), x.All())
				}
			}
		}
	}
}

// P1: a table that is copied as a value doesn't panic.
func TestCopied(t *testing.T) {
	a := New[uint32]()
	b := *a
	next := random(1)
	for range 1000 {
		x := a
		if next(2) == 0 {
			x = &b
		}
		p := prefix(next(8)<<29, int(next(5)))
		x.Put(p, 1)
		x.Get(p)
		x.Find(p.Addr)
		x.All()
		x.Len()
		x.Drop(prefix(next(8)<<29, int(next(5))))
	}
}

// P2: tables know nothing of each other.
func TestTwoTables(t *testing.T) {
	a, b := newBoth[int](t), newBoth[int](t)
	next := random(2)
	for i := range 500 {
		p, q := prefix(next(8)<<29, int(next(5))), prefix(next(8)<<29, int(next(5)))
		a.put(p, i)
		b.put(q, -i)
		a.drop(q)
		if i%3 == 0 {
			b.drop(p)
		}
		a.check()
		b.check()
	}
}

// Ownership: what All returned shares nothing with the table.
func TestAllIsNew(t *testing.T) {
	b := newBoth[int](t)
	for i, p := range []api.Prefix{prefix(10<<24, 8), {}, prefix(0, 3), prefix(last, 32)} {
		b.put(p, i)
		l, again := b.table.All(), b.table.All()
		kept := slices.Clone(again)
		for i := range l {
			l[i] = api.Prefix{Addr: 5, Bits: 5}
		}
		_ = append(l, api.Prefix{Addr: 6})
		b.check()
		b.put(prefix(1<<30, 2), 9)
		b.drop(prefix(1<<30, 2))
		if !slices.Equal(again, kept) {
			t.Errorf("All became %v", again)
		}
		b.check()
	}
}

// put puts an element that nothing else points to.
func put(x *Table[*[64]byte], p api.Prefix) weak.Pointer[[64]byte] {
	e := new([64]byte)
	x.Put(p, e)
	return weak.Make(e)
}

// 32.1: an element that was dropped is not kept, wherever it was.
func TestMemory(t *testing.T) {
	x := New[*[64]byte]()
	l := []api.Prefix{{}, prefix(0, 1), prefix(0, 2), prefix(1<<30, 2), prefix(0, 32), prefix(1, 32), prefix(last, 32), prefix(last, 31)}
	var gone []weak.Pointer[[64]byte]
	for _, p := range l {
		gone = append(gone, put(x, p))
	}
	for i, p := range l {
		x.Drop(p)
		runtime.GC()
		for k, e := range gone {
			if (e.Value() == nil) != (k <= i) {
				t.Errorf("the element of %v, when %v was dropped", l[k], p)
			}
		}
	}
	runtime.KeepAlive(x)
}

// nodes returns the number of nodes, n and those below, and how many of them
// have no element.
func (n *node[T]) nodes() (int, int) {
	if n == nil {
		return 0, 0
	}
	all, bare := 1, 0
	if !n.there {
		bare++
	}
	for _, m := range n.next {
		a, b := m.nodes()
		all, bare = all+a, bare+b
	}
	return all, bare
}

// A table keeps no nodes that it does not need.
func TestNodes(t *testing.T) {
	next := random(3)
	b := newBoth[uint32](t)
	for i := range 4000 {
		p := prefix(next(1<<31)<<1, int(next(33)))
		if n := uint32(len(b.list)); n > 0 && i/500%2 == 1 {
			p = b.list[next(n)].p
		}
		if i/500%2 == 0 {
			b.put(p, 1)
		} else {
			b.drop(p)
		}
		if all, bare := b.table.root.nodes(); all-bare != len(b.list) || bare > max(1, len(b.list)) {
			t.Fatalf("%d nodes, %d without elements, for %d elements", all, bare, len(b.list))
		}
	}
	for len(b.list) > 0 {
		b.drop(b.list[0].p)
	}
	if all, _ := b.table.root.nodes(); all != 1 {
		t.Errorf("%d nodes of an empty table", all)
	}
}
