package drr

import (
	"math"
	"math/big"
	"slices"
	"testing"

	"pacemaker/api"
)

// sent is what Next returns.
type sent struct {
	class int
	size  uint64
	id    int
	ok    bool
}

// both are Turns, and what they should be by the chapter's definitions.
type both struct {
	t      *testing.T
	turns  *Turns
	quanta []uint64
	credit []uint64
	items  [][]item
	row    []int
	begun  bool
}

// newBoth makes Turns of classes with these quanta.
func newBoth(t *testing.T, quanta ...uint64) *both {
	t.Helper()
	turns, err := New(quanta)
	if turns == nil || err != api.OK {
		t.Fatalf("New(%v) is %v, %d", quanta, turns, err)
	}
	n := len(quanta)
	b := &both{t: t, turns: turns, quanta: quanta, credit: make([]uint64, n), items: make([][]item, n)}
	b.check()
	return b
}

// has tells whether there is such a class.
func (b *both) has(class int) bool { return class >= 0 && class < len(b.quanta) }

// check tells whether the Turns are what they should be.
func (b *both) check() {
	b.t.Helper()
	n := 0
	for class := -2; class < len(b.quanta)+2; class++ {
		var credit uint64
		if b.has(class) {
			credit = b.credit[class]
			n += len(b.items[class])
		}
		if got := b.turns.Credit(class); got != credit {
			b.t.Fatalf("Credit(%d) is %d, not %d", class, got, credit)
		}
	}
	if got := b.turns.Len(); got != n {
		b.t.Fatalf("Len is %d, not %d", got, n)
	}
	if got := b.turns.Row(); !slices.Equal(got, b.row) {
		b.t.Fatalf("Row is %v, not %v", got, b.row)
	}
}

// push pushes an item to both, and returns the error.
func (b *both) push(class int, size uint64, id int) api.Errno {
	b.t.Helper()
	want := api.OK
	switch {
	case !b.has(class):
		want = api.ErrNone
	case size == 0 || size > 65535:
		want = api.ErrLen
	case len(b.items[class]) == 1024:
		want = api.ErrFull
	default:
		if len(b.items[class]) == 0 {
			b.row = append(b.row, class)
		}
		b.items[class] = append(b.items[class], item{size, id})
	}
	if err := b.turns.Push(class, size, id); err != want {
		b.t.Fatalf("Push(%d, %d, %d) is %d, not %d", class, size, id, err, want)
	}
	b.check()
	return want
}

// turn does what Next should.
func (b *both) turn() sent {
	for len(b.row) > 0 {
		class := b.row[0]
		if !b.begun {
			b.credit[class] += b.quanta[class]
			b.begun = true
		}
		x := b.items[class][0]
		if x.size <= b.credit[class] {
			b.credit[class] -= x.size
			b.items[class] = b.items[class][1:]
			if len(b.items[class]) == 0 {
				b.row = slices.Clone(b.row[1:])
				b.begun = false
				b.credit[class] = 0
			}
			return sent{class, x.size, x.id, true}
		}
		b.row = append(slices.Clone(b.row[1:]), class)
		b.begun = false
	}
	return sent{}
}

// next calls Next, and returns what it returned.
func (b *both) next() sent {
	b.t.Helper()
	want := b.turn()
	var got sent
	got.class, got.size, got.id, got.ok = b.turns.Next()
	if got != want {
		b.t.Fatalf("Next is %v, not %v", got, want)
	}
	b.check()
	return got
}

// nextIs tells whether an item leaves, and what is then the credit of its class.
func (b *both) nextIs(class int, size uint64, id int, credit uint64, row ...int) {
	b.t.Helper()
	if got := b.next(); got != (sent{class, size, id, true}) {
		b.t.Fatalf("item %v left, not %d of class %d", got, id, class)
	}
	if got := b.turns.Credit(class); got != credit {
		b.t.Fatalf("the credit of class %d is %d, not %d", class, got, credit)
	}
	if got := b.turns.Row(); !slices.Equal(got, row) {
		b.t.Fatalf("the row is %v, not %v", got, row)
	}
}

// nothing tells whether no item leaves.
func (b *both) nothing() {
	b.t.Helper()
	if got := b.next(); got != (sent{}) {
		b.t.Fatalf("item %v left", got)
	}
}

// random returns a function whose result is less than n.
func random(seed uint64) func(n uint64) uint64 {
	return func(n uint64) uint64 {
		seed = seed*6364136223846793005 + 1442695040888963407
		return seed >> 33 % n
	}
}

// 29.1
func TestNew(t *testing.T) {
	check := func(want api.Errno, quanta ...uint64) {
		t.Helper()
		if turns, err := New(quanta); turns != nil || err != want {
			t.Errorf("New(%v) is %v, %d, not %d", quanta, turns, err, want)
		}
	}
	check(api.ErrFlows)
	check(api.ErrFlows, []uint64{}...)
	check(api.ErrFlows, slices.Repeat([]uint64{64}, 65)...)
	check(api.ErrFlows, slices.Repeat([]uint64{64}, 1000)...)
	// Too many classes come first.
	check(api.ErrFlows, slices.Repeat([]uint64{63}, 65)...)
	for _, wrong := range []uint64{0, 1, 63, 1<<32 + 1, 1 << 33, 1 << 63, api.MaxU64} {
		check(api.ErrArg, wrong)
		for i := range 64 {
			quanta := slices.Repeat([]uint64{1 << 32, 64}, 32)
			quanta[i] = wrong
			check(api.ErrArg, quanta...)
			check(api.ErrArg, quanta[:i+1]...)
		}
	}
	for _, n := range []int{1, 2, 63, 64} {
		for _, quantum := range []uint64{64, 65, 1500, 1<<32 - 1, 1 << 32} {
			newBoth(t, slices.Repeat([]uint64{quantum}, n)...).nothing()
		}
	}
}

// 29.1
func TestConstants(t *testing.T) {
	if MinQuantum != 64 || MaxQuantum != 4294967296 || MaxItems != 1024 {
		t.Error(MinQuantum, uint64(MaxQuantum), MaxItems)
	}
}

// 29.1: Push to classes that there are not, and of sizes that there are not.
func TestPush(t *testing.T) {
	b := newBoth(t, 64, 100, 200)
	for _, class := range []int{-1, 3, 4, 64, math.MinInt, math.MaxInt, 1 << 32, -1 << 32} {
		for _, size := range []uint64{0, 1, 65535, 65536} {
			if b.push(class, size, 1) != api.ErrNone || b.turns.Credit(class) != 0 {
				t.Errorf("class %d", class)
			}
		}
	}
	for class := range 3 {
		for _, size := range []uint64{0, 65536, 65537, 1 << 32, 1<<32 + 1, api.MaxU64} {
			if b.push(class, size, 1) != api.ErrLen {
				t.Errorf("size %d", size)
			}
		}
		for i, size := range []uint64{1, 2, 64, 65534, 65535} {
			if b.push(class, size, i) != api.OK {
				t.Errorf("size %d", size)
			}
		}
	}
	for range 15 {
		b.next()
	}
	b.nothing()
}

// 29.1: each class has room for MaxItems items, whatever the others have.
func TestFull(t *testing.T) {
	b := newBoth(t, 500, 500)
	for i := range 1023 {
		b.push(0, 1, i)
	}
	b.push(1, 400, -1)
	if b.push(0, 1, 1023) != api.OK {
		t.Error("item 1024")
	}
	for range 3 {
		if b.push(0, 1, 1024) != api.ErrFull || b.push(0, 0, 1024) != api.ErrLen || b.push(2, 0, 1024) != api.ErrNone {
			t.Error("one more")
		}
	}
	if b.push(1, 1, -2) != api.OK {
		t.Error("the other class")
	}
	b.nextIs(0, 1, 0, 499, 0, 1)
	if b.push(0, 1, 1024) != api.OK || b.push(0, 1, 1025) != api.ErrFull {
		t.Error("after one left")
	}
	for range 1026 {
		b.next()
	}
	b.nothing()
}

// 29.1: all classes that there can be, with all items that they can have.
func TestAllFull(t *testing.T) {
	quanta := make([]uint64, 64)
	for i := range quanta {
		quanta[i] = 64 << (i % 27)
	}
	turns, err := New(quanta)
	if err != api.OK {
		t.Fatal(err)
	}
	for i := range 1025 {
		for class := range quanta {
			want := api.OK
			if i == 1024 {
				want = api.ErrFull
			}
			if err := turns.Push(class, 65535, i); err != want {
				t.Fatalf("item %d of class %d is %d", i, class, err)
			}
		}
	}
	if n := turns.Len(); n != 65536 {
		t.Errorf("Len is %d", n)
	}
	left := make([]int, 64)
	for range 65536 {
		class, size, id, ok := turns.Next()
		if !ok || size != 65535 || id != left[class] {
			t.Fatalf("Next is %d, %d, %d, %t", class, size, id, ok)
		}
		left[class]++
	}
	if _, _, _, ok := turns.Next(); ok || turns.Len() != 0 || len(turns.Row()) != 0 {
		t.Error("something is left")
	}
}

// 29.2, the chapter's example.
func TestExample(t *testing.T) {
	b := newBoth(t, 100, 200)
	for i := range 9 {
		b.push(0, 100, i)
		b.push(1, 100, 100+i)
	}
	for i := range 4 {
		b.nextIs(0, 100, i, 0, 0, 1)
		// Its turn ends, and only now, as its next item has more than its credit.
		b.nextIs(1, 100, 100+2*i, 100, 1, 0)
		b.nextIs(1, 100, 101+2*i, 0, 1, 0)
	}
}

// 29.2, 29.3: nothing leaves an empty row, and nothing changes.
func TestEmpty(t *testing.T) {
	b := newBoth(t, 64, 100)
	for range 3 {
		b.nothing()
	}
	b.push(1, 101, 5)
	b.nextIs(1, 101, 5, 0)
	for range 3 {
		b.nothing()
	}
	b.push(0, 64, 6)
	b.nextIs(0, 64, 6, 0)
	b.nothing()
}

// 29.2: a class alone has one turn behind the other, as many as its first item
// needs.
func TestAlone(t *testing.T) {
	for _, quantum := range []uint64{64, 65, 100, 65534, 65535, 65536, 1 << 32} {
		for _, size := range []uint64{1, 63, 64, 65, 127, 128, 129, 99, 100, 101, 65534, 65535} {
			b := newBoth(t, quantum)
			b.push(0, size, 1)
			b.push(0, size, 2)
			b.push(0, 65535, 3)
			rounds := (size + quantum - 1) / quantum
			credit := rounds*quantum - size
			b.nextIs(0, size, 1, credit, 0)
			if credit < size {
				credit += (size - credit + quantum - 1) / quantum * quantum
			}
			b.nextIs(0, size, 2, credit-size, 0)
			b.nextIs(0, 65535, 3, 0)
		}
	}
}

// 29.2: an item of just as many bytes as there is credit leaves, and with one
// byte more it waits for the next turn, with all the credit.
func TestJustEnough(t *testing.T) {
	b := newBoth(t, 100, 100, 100)
	for class, size := range []uint64{100, 101, 99} {
		b.push(class, size, 1)
		b.push(class, 100, 2)
		b.push(class, 1, 3)
		b.push(class, 100, 4)
	}
	b.nextIs(0, 100, 1, 0, 0, 1, 2)
	b.nextIs(2, 99, 1, 1, 2, 0, 1)
	b.nextIs(0, 100, 2, 0, 0, 1, 2)
	b.nextIs(1, 101, 1, 99, 1, 2, 0)
	b.nextIs(2, 100, 2, 1, 2, 0, 1)
	b.nextIs(2, 1, 3, 0, 2, 0, 1)
	b.nextIs(0, 1, 3, 99, 0, 1, 2)
	b.nextIs(1, 100, 2, 99, 1, 2, 0)
	b.nextIs(1, 1, 3, 98, 1, 2, 0)
	b.nextIs(2, 100, 4, 0, 0, 1)
	b.nextIs(0, 100, 4, 0, 1)
	b.nextIs(1, 100, 4, 0)
	b.nothing()
}

// 29.2: classes that need many rounds for an item, beside those that need one.
func TestManyRounds(t *testing.T) {
	b := newBoth(t, 64, 1000, 1<<32)
	b.push(0, 65535, 1)
	b.push(0, 65535, 2)
	b.push(1, 65535, 3)
	b.push(1, 65535, 4)
	b.push(2, 65535, 5)
	b.nextIs(2, 65535, 5, 0, 0, 1)
	b.nextIs(1, 65535, 3, 66000-65535, 1, 0)
	b.nextIs(1, 65535, 4, 0, 0)
	b.nextIs(0, 65535, 1, 1, 0)
	b.nextIs(0, 65535, 2, 0)
}

// 29.2: a class that runs empty amid its turn begins another one, without its
// credit, behind all others, when it is pushed to again.
func TestRunsEmpty(t *testing.T) {
	b := newBoth(t, 1000, 100, 300)
	b.push(0, 10, 1)
	b.push(1, 60, 2)
	b.push(1, 60, 3)
	b.push(2, 300, 4)
	b.push(2, 300, 5)
	b.nextIs(0, 10, 1, 0, 1, 2)
	// The next one hasn't begun its turn yet.
	b.push(0, 1000, 6)
	b.push(0, 1, 7)
	b.nextIs(1, 60, 2, 40, 1, 2, 0)
	b.nextIs(2, 300, 4, 0, 2, 0, 1)
	b.nextIs(0, 1000, 6, 0, 0, 1, 2)
	b.nextIs(1, 60, 3, 0, 2, 0)
	b.push(1, 100, 8)
	b.nextIs(2, 300, 5, 0, 0, 1)
	b.nextIs(0, 1, 7, 0, 1)
	b.nextIs(1, 100, 8, 0)

	// The only class runs empty, and is pushed to again.
	b.push(2, 250, 9)
	b.nextIs(2, 250, 9, 0)
	b.push(2, 300, 10)
	b.push(2, 1, 11)
	b.nextIs(2, 300, 10, 0, 2)
	b.nextIs(2, 1, 11, 0)

	// It is pushed to while another one is amid its turn.
	b.push(0, 400, 12)
	b.push(1, 100, 13)
	b.push(1, 100, 14)
	b.nextIs(0, 400, 12, 0, 1)
	b.nextIs(1, 100, 13, 0, 1)
	b.push(0, 1000, 15)
	b.nextIs(0, 1000, 15, 0, 1)
	b.nextIs(1, 100, 14, 0)
}

// 29.2: what is pushed to a class amid its turn belongs to this turn.
func TestAmidTurn(t *testing.T) {
	b := newBoth(t, 100, 100)
	b.push(0, 10, 1)
	b.push(0, 20, 2)
	b.push(1, 10, 3)
	b.nextIs(0, 10, 1, 90, 0, 1)
	b.push(0, 70, 4)
	b.push(0, 1, 5)
	b.nextIs(0, 20, 2, 70, 0, 1)
	b.nextIs(0, 70, 4, 0, 0, 1)
	b.nextIs(1, 10, 3, 0, 0)
	b.nextIs(0, 1, 5, 0)
}

// 29.3: the row is that of turns, however classes came into it.
func TestRow(t *testing.T) {
	b := newBoth(t, slices.Repeat([]uint64{64}, 64)...)
	for i := range 64 {
		class := i * 37 % 64
		b.push(class, 64, i)
		b.push(class, 64, 64+i)
	}
	for i := range 128 {
		if got := b.next(); got.class != i*37%64 || got.id != i {
			t.Errorf("item %d is %v", i, got)
		}
	}
	b.nothing()
}

// Ownership: lists that were handed in or out share nothing.
func TestLists(t *testing.T) {
	quanta := []uint64{100, 200}
	b := newBoth(t, quanta...)
	b.quanta = slices.Clone(quanta)
	quanta[0], quanta[1] = 5000, 5000
	for i := range 3 {
		b.push(0, 150, i)
		b.push(1, 150, 10+i)
	}
	x, y := b.turns.Row(), b.turns.Row()
	x[0], x[1] = 7, 8
	_ = append(x[:0], 9, 10)
	if !slices.Equal(y, []int{0, 1}) {
		t.Errorf("a list became %v as another one was changed", y)
	}
	b.check()
	for range 6 {
		b.next()
	}
	if !slices.Equal(y, []int{0, 1}) {
		t.Errorf("a list that was handed out became %v", y)
	}
}

// P2: Turns know nothing of each other.
func TestTwoTurns(t *testing.T) {
	a, b := newBoth(t, 100, 200), newBoth(t, 200, 100)
	for i := range 5 {
		a.push(i%2, 150, i)
		b.push(i%2, 250, 10+i)
	}
	for range 6 {
		a.next()
		b.check()
		b.next()
		a.check()
	}
}

// 29.3, P1: Turns that New did not make.
func TestNotMade(t *testing.T) {
	for _, turns := range []*Turns{nil, {}, new(Turns)} {
		for _, class := range []int{-1, 0, 1, math.MinInt, math.MaxInt} {
			for _, size := range []uint64{0, 1, 65535, 65536} {
				if err := turns.Push(class, size, 1); err != api.ErrNil {
					t.Errorf("Push is %d", err)
				}
			}
			if turns.Credit(class) != 0 {
				t.Errorf("Credit is %d", turns.Credit(class))
			}
			if class, size, id, ok := turns.Next(); class != 0 || size != 0 || id != 0 || ok {
				t.Errorf("Next is %d, %d, %d, %t", class, size, id, ok)
			}
			if turns.Len() != 0 || len(turns.Row()) != 0 {
				t.Errorf("Len is %d, Row is %v", turns.Len(), turns.Row())
			}
		}
	}
}

// 29.1 to 29.3: all short lists of calls, with items that need one turn or more.
func TestAllCalls(t *testing.T) {
	const kinds = 5
	for n := range 8 {
		count := int(math.Pow(kinds, float64(n)))
		for k := range count {
			b := newBoth(t, 64, 100)
			for i := range n {
				switch k % kinds {
				case 0:
					b.next()
				case 1, 2:
					b.push(k%kinds-1, 50, i)
				case 3, 4:
					b.push(k%kinds-3, 150, i)
				}
				k /= kinds
			}
			for len(b.row) > 0 {
				b.next()
			}
		}
	}
}

// 29.1 to 29.3: long rows of calls, against the definitions.
func TestMany(t *testing.T) {
	for seed := range uint64(60) {
		next := random(seed)
		quanta := make([]uint64, []uint64{1, 2, 3, 10, 64}[seed%5])
		for i := range quanta {
			quanta[i] = 64 + next(1<<next(20))
		}
		b := newBoth(t, quanta...)
		most := []uint64{1, 100, 2000, 65535}[seed%4]
		for i := range 2000 {
			class := int(next(uint64(len(quanta))))
			// The classes are filled and emptied by turns.
			switch r := next(20); {
			case r == 0:
				b.push(class-3, next(3)*32768, i)
			case r < 8+uint64(i/400%2*4):
				b.push(class, 1+next(most), i)
			default:
				b.next()
			}
		}
		for len(b.row) > 0 {
			b.next()
		}
		b.nothing()
	}
}

// product returns a * b, exactly.
func product(a, b uint64) *big.Int {
	x := new(big.Int).SetUint64(a)
	return x.Mul(x, new(big.Int).SetUint64(b))
}

// bound returns what 29.4 allows two classes to differ by.
func bound(q, r, size uint64) *big.Int {
	x := product(q, r)
	return x.Add(x, product(size, q+r))
}

// checkBound lets two classes, which get new items of the sizes that size
// tells as others leave, send some items, and tells whether they differ within
// 29.4's bound from any moment to any other one. It returns what part of the
// bound they differ by at most.
func checkBound(t *testing.T, quanta []uint64, n int, size func(class, i int) uint64) float64 {
	t.Helper()
	turns, err := New(quanta)
	if err != api.OK {
		t.Fatal(err)
	}
	var greatest uint64
	pushed := make([]int, len(quanta))
	push := func(class int) {
		x := size(class, pushed[class])
		greatest = max(greatest, x)
		if err := turns.Push(class, x, pushed[class]); err != api.OK {
			t.Fatal(err)
		}
		pushed[class]++
	}
	for class := range quanta {
		push(class)
		push(class)
	}
	// The difference from a moment to another one is that of these sums.
	sum, least, most := new(big.Int), new(big.Int), new(big.Int)
	for range n {
		class, x, _, _ := turns.Next()
		push(class)
		switch class {
		case 0:
			sum.Add(sum, product(x, quanta[1]))
		case 1:
			sum.Sub(sum, product(x, quanta[0]))
		}
		if sum.Cmp(least) < 0 {
			least.Set(sum)
		}
		if sum.Cmp(most) > 0 {
			most.Set(sum)
		}
	}
	limit := bound(quanta[0], quanta[1], greatest)
	difference := most.Sub(most, least)
	if difference.Cmp(limit) > 0 {
		t.Errorf("quanta of %v: %v is more than %v", quanta, difference, limit)
	}
	part, _ := new(big.Rat).SetFrac(difference, limit).Float64()
	return part
}

// 29.4, at the edges of quanta and of sizes, alone and beside another class.
func TestBound(t *testing.T) {
	sizes := []func(class, i int) uint64{
		func(class, i int) uint64 { return 1 },
		func(class, i int) uint64 { return 65535 },
		func(class, i int) uint64 { return uint64(1 + class%2*65534) },
		func(class, i int) uint64 { return uint64(65535 - class%2*65534) },
		func(class, i int) uint64 { return uint64(1 + i%2*65534) },
		func(class, i int) uint64 { return uint64(65535 - (i+class)%3*32767) },
		func(class, i int) uint64 { return 65 },
		func(class, i int) uint64 { return uint64(63 + i%3) },
	}
	quanta := []uint64{64, 65, 127, 1500, 65535, 65536}
	for _, q := range quanta {
		for _, r := range quanta {
			for _, size := range sizes {
				checkBound(t, []uint64{q, r}, 500, size)
				checkBound(t, []uint64{q, r, 1000}, 500, size)
			}
		}
	}
}

// 29.4, with the greatest quantum, for which a turn has very many items.
func TestBoundOfGreatest(t *testing.T) {
	whole := func(class, i int) uint64 { return 65535 }
	part := checkBound(t, []uint64{MaxQuantum, MaxQuantum}, 300000, whole)
	if part < 0.99 {
		t.Errorf("the classes differ by only %f of the bound", part)
	}
	checkBound(t, []uint64{MaxQuantum, MinQuantum}, 100000, whole)
	checkBound(t, []uint64{MinQuantum, MaxQuantum, 100}, 100000, func(class, i int) uint64 { return uint64(1 + (i*i+class)%65535) })
}

// 29.4: the bound is nearly reached, so that Turns that were a little less fair
// would break it.
func TestBoundIsNear(t *testing.T) {
	next := random(1)
	var most float64
	for range 300 {
		quanta := []uint64{64 + next(2000), 64 + next(2000)}
		greatest := 1 + next(3000)
		sizes := [2]uint64{1 + next(greatest), 1 + next(greatest)}
		part := checkBound(t, quanta, 1000, func(class, i int) uint64 {
			if next(4) == 0 {
				return greatest
			}
			return sizes[class]
		})
		most = max(most, part)
	}
	if most < 0.9 {
		t.Errorf("the classes differ by only %f of the bound", most)
	}
}

// 29.5: all items leave, each one once, and those of a class in their order.
func TestEachLeavesOnce(t *testing.T) {
	for seed := range uint64(20) {
		next := random(seed)
		quanta := make([]uint64, 1+next(64))
		for i := range quanta {
			quanta[i] = 64 << next(27)
		}
		turns, err := New(quanta)
		if err != api.OK {
			t.Fatal(err)
		}
		pushed, left := make([][]item, len(quanta)), make([][]item, len(quanta))
		leave := func() bool {
			class, size, id, ok := turns.Next()
			if ok {
				left[class] = append(left[class], item{size, id})
			}
			return ok
		}
		for i := range 3000 {
			class := int(next(uint64(len(quanta))))
			x := item{1 + next(65535), i - 1000}
			if turns.Push(class, x.size, x.id) == api.OK {
				pushed[class] = append(pushed[class], x)
			}
			if next(3) == 0 {
				leave()
			}
		}
		for leave() {
		}
		for class := range quanta {
			if !slices.Equal(left[class], pushed[class]) {
				t.Errorf("class %d: %v left, not %v", class, left[class], pushed[class])
			}
		}
	}
}
