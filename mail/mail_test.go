package mail

import (
	"errors"
	"math"
	"reflect"
	"runtime"
	"slices"
	"testing"
	"weak"

	"pacemaker/api"
)

// random returns a function whose result is less than n.
func random(seed uint64) func(n int) int {
	return func(n int) int {
		seed = seed*6364136223846793005 + 1442695040888963407
		return int(seed>>33) % n
	}
}

// newBox makes a box with room for so many elements.
func newBox[T any](t *testing.T, room int) *Box[T] {
	t.Helper()
	b, err := New[T](room)
	if b == nil || err != api.OK {
		t.Fatalf("New(%d) is %d", room, err)
	}
	checkState(t, b, true, 0)
	return b
}

// filled makes a box that has these elements, and room for so many.
func filled[T any](t *testing.T, room int, l ...T) *Box[T] {
	t.Helper()
	b := newBox[T](t, room)
	for i, x := range l {
		if !b.Send(x) {
			t.Fatalf("Send of element %d is false", i)
		}
		checkState(t, b, true, i+1)
	}
	return b
}

// checkState tells whether a box is open or not, and how many elements it has.
func checkState[T any](t *testing.T, b *Box[T], open bool, n int) {
	t.Helper()
	if b.Open() != open || b.Len() != n {
		t.Fatalf("Open is %t, not %t; Len is %d, not %d", b.Open(), open, b.Len(), n)
	}
}

// checkTake tells whether these elements are taken, and no others.
func checkTake[T comparable](t *testing.T, b *Box[T], l ...T) {
	t.Helper()
	for i, want := range l {
		if x, ok := b.Take(); x != want || !ok {
			t.Fatalf("Take is %v, %t, not %v", x, ok, want)
		}
		if n := b.Len(); n != len(l)-i-1 {
			t.Fatalf("Len is %d, not %d", n, len(l)-i-1)
		}
	}
	checkEmpty(t, b)
}

// checkEmpty tells whether nothing is taken, again and again.
func checkEmpty[T comparable](t *testing.T, b *Box[T]) {
	t.Helper()
	var none T
	open := b.Open()
	for range 3 {
		if x, ok := b.Take(); x != none || ok {
			t.Fatalf("Take is %v, %t", x, ok)
		}
		if l := b.Some(1); len(l) != 0 {
			t.Fatalf("Some is %v", l)
		}
		if i, x, ok := First(b); i != 0 || x != none || ok {
			t.Fatalf("First is %d, %v, %t", i, x, ok)
		}
		checkState(t, b, open, 0)
	}
}

// 35.1, the chapter's example.
func TestExample(t *testing.T) {
	b := newBox[string](t, 1)
	if !b.Send("a") || b.Send("b") {
		t.Error("Send")
	}
	if !b.Shut() {
		t.Error("Shut")
	}
	if x, ok := b.Take(); x != "a" || !ok {
		t.Errorf("Take is %q, %t", x, ok)
	}
	if b.Send("c") {
		t.Error("Send into a closed box")
	}
	checkEmpty(t, b)
}

// 35.1: for how many elements there may be room.
func TestNew(t *testing.T) {
	for _, room := range []int{math.MinInt, -4096, -2, -1, 0, 4097, 4098, 8192, 65536, 1 << 32, 1<<32 + 1, math.MaxInt} {
		if b, err := New[int](room); b != nil || err != api.ErrCaps {
			t.Errorf("New(%d) is %v, %d", room, b, err)
		}
	}
	for _, room := range []int{1, 2, 3, 63, 64, 65, 1000, 4095, 4096} {
		b := newBox[int](t, room)
		want := make([]int, room)
		for i := range want {
			want[i] = -i
			if !b.Send(-i) {
				t.Fatalf("Send of element %d of %d is false", i, room)
			}
		}
		for range 3 {
			if b.Send(7) {
				t.Fatalf("Send of one more than %d", room)
			}
			checkState(t, b, true, room)
		}
		checkTake(t, b, want...)
		if !b.Send(9) {
			t.Fatal("Send into a box that is empty again")
		}
		checkTake(t, b, 9)
	}
}

// 35.1: there is room for as many as were taken.
func TestFull(t *testing.T) {
	for room := 1; room < 10; room++ {
		b := newBox[int](t, room)
		sent, taken := 0, 0
		for turn := range 100 {
			for b.Send(sent) {
				sent++
			}
			checkState(t, b, true, room)
			for range turn%room + 1 {
				if x, ok := b.Take(); x != taken || !ok {
					t.Fatalf("Take is %d, %t, not %d", x, ok, taken)
				}
				taken++
			}
			checkState(t, b, true, sent-taken)
		}
		if sent != taken+room-(99%room+1) {
			t.Errorf("%d were sent, %d taken", sent, taken)
		}
	}
}

// 35.1, 35.2: into a box that is full, closed, or both, nothing is sent.
func TestSendRefused(t *testing.T) {
	full, shut, both := filled(t, 2, "a", "b"), filled(t, 2, "a"), filled(t, 2, "a", "b")
	shut.Shut()
	both.Shut()
	for range 3 {
		if full.Send("c") || shut.Send("c") || both.Send("c") {
			t.Fatal("Send is true")
		}
		checkState(t, full, true, 2)
		checkState(t, shut, false, 1)
		checkState(t, both, false, 2)
	}
	both.Take()
	if both.Send("c") {
		t.Error("Send into a closed box that was full")
	}
	checkTake(t, full, "a", "b")
	checkTake(t, shut, "a")
	checkTake(t, both, "b")
	if !full.Send("c") || shut.Send("c") || both.Send("c") {
		t.Error("Send into empty boxes")
	}
	checkTake(t, full, "c")
}

// 35.1, 35.2: from a box that is empty, closed, or both.
func TestTake(t *testing.T) {
	b := newBox[int](t, 3)
	checkEmpty(t, b)
	b.Send(5)
	b.Send(6)
	b.Shut()
	checkState(t, b, false, 2)
	checkTake(t, b, 5, 6)
	checkState(t, b, false, 0)
	checkEmpty(t, b)
	b = newBox[int](t, 3)
	b.Shut()
	checkEmpty(t, b)
}

// 35.1: as many as there are, at most as many as are asked for, and no others
// are gone.
func TestSome(t *testing.T) {
	for room := 1; room < 8; room++ {
		for has := range room + 1 {
			for _, n := range []int{math.MinInt, -7, -1, 0, 1, 2, 3, has - 1, has, has + 1, room, room + 1, 4096, 4097, math.MaxInt} {
				for _, shut := range []bool{false, true} {
					all := make([]int, has)
					for i := range all {
						all[i] = i * 11
					}
					b := filled(t, room, all...)
					if shut {
						b.Shut()
					}
					want := min(max(n, 0), has)
					if l := b.Some(n); !slices.Equal(l, all[:want]) {
						t.Fatalf("Some(%d) of %v is %v", n, all, l)
					}
					checkState(t, b, !shut, has-want)
					checkTake(t, b, all[want:]...)
				}
			}
		}
	}
	var all []int
	for i := range 4096 {
		all = append(all, i)
	}
	if l := filled(t, 4096, all...).Some(math.MaxInt); !slices.Equal(l, all) {
		t.Errorf("Some is %d elements", len(l))
	}
}

// Ownership: what Some returns twice is different memory, and none of the box.
func TestSomeIsNew(t *testing.T) {
	b := filled(t, 9, 1, 2, 3, 4, 5, 6)
	l := b.Some(2)
	m := b.Some(2)
	if l = append(l, 90, 91); !slices.Equal(m, []int{3, 4}) {
		t.Errorf("%v, %v", l, m)
	}
	l[0], l[1], m[0] = 70, 71, 72
	if m[1] != 4 {
		t.Errorf("%v, %v", l, m)
	}
	checkTake(t, b, 5, 6)
}

// 35.2: a box that was closed stays so.
func TestShut(t *testing.T) {
	for has := range 4 {
		b := filled(t, 3, []string{"a", "b", "c"}[:has]...)
		if !b.Shut() {
			t.Fatal("Shut of an open box is false")
		}
		checkState(t, b, false, has)
		for left := has; left >= 0; left-- {
			for range 2 {
				if b.Shut() || b.Send("d") {
					t.Fatal("a closed box was open")
				}
				checkState(t, b, false, left)
			}
			b.Take()
		}
		checkEmpty(t, b)
		if b.Shut() {
			t.Error("Shut of a closed and empty box is true")
		}
	}
}

// 35.2: Open and Len behind each step.
func TestOpenLen(t *testing.T) {
	b := newBox[int](t, 2)
	for i, step := range []struct {
		do   func()
		open bool
		n    int
	}{
		{func() { b.Take() }, true, 0},
		{func() { b.Send(1) }, true, 1},
		{func() { b.Some(0) }, true, 1},
		{func() { b.Send(2) }, true, 2},
		{func() { b.Send(3) }, true, 2},
		{func() { First(b) }, true, 1},
		{func() { b.Send(4) }, true, 2},
		{func() { b.Some(2) }, true, 0},
		{func() { b.Some(2) }, true, 0},
		{func() { b.Send(5) }, true, 1},
		{func() { b.Shut() }, false, 1},
		{func() { b.Send(6) }, false, 1},
		{func() { b.Shut() }, false, 1},
		{func() { b.Take() }, false, 0},
		{func() { b.Take() }, false, 0},
		{func() { b.Send(7) }, false, 0},
		{func() { b.Shut() }, false, 0},
	} {
		step.do()
		if b.Open() != step.open || b.Len() != step.n {
			t.Errorf("step %d: Open is %t, Len is %d", i, b.Open(), b.Len())
		}
	}
}

// checkFirst tells which element First takes, and that it changes no other box.
// (There is none if i is -1.)
func checkFirst(t *testing.T, l []*Box[string], i int, want string) {
	t.Helper()
	kept := slices.Clone(l)
	var lens []int
	for _, b := range l {
		lens = append(lens, b.Len())
	}
	at, x, ok := First(l...)
	if ok != (i >= 0) || at != max(i, 0) || x != want {
		t.Fatalf("First is %d, %q, %t, not %d, %q", at, x, ok, i, want)
	}
	for k, b := range l {
		if k == i {
			lens[k]--
		}
		if b.Len() != lens[k] {
			t.Fatalf("box %d has %d elements, not %d", k, b.Len(), lens[k])
		}
	}
	if !slices.Equal(l, kept) {
		t.Fatal("the list was changed")
	}
}

// 35.2
func TestFirst(t *testing.T) {
	checkFirst(t, nil, -1, "")
	checkFirst(t, []*Box[string]{}, -1, "")
	checkFirst(t, []*Box[string]{newBox[string](t, 1)}, -1, "")
	one := []*Box[string]{filled(t, 5, "a", "b")}
	checkFirst(t, one, 0, "a")
	checkFirst(t, one, 0, "b")
	checkFirst(t, one, -1, "")

	shut, gone := filled(t, 2, "c"), newBox[string](t, 1)
	shut.Shut()
	gone.Shut()
	l := []*Box[string]{nil, newBox[string](t, 3), {}, gone, shut, nil, filled(t, 2, "d", "e"), filled(t, 1, "f")}
	checkFirst(t, l, 4, "c")
	checkFirst(t, l, 6, "d")
	l[1].Send("g")
	checkFirst(t, l, 1, "g")
	checkFirst(t, l, 6, "e")
	l[6].Send("h")
	l[7].Send("i") // it is full
	checkFirst(t, l, 6, "h")
	checkFirst(t, l, 7, "f")
	checkFirst(t, l, -1, "")
	checkFirst(t, l, -1, "")
}

// 35.2: the same box several times, and one that has the zero value.
func TestFirstSame(t *testing.T) {
	b, c := filled(t, 3, "a", "b", "c"), filled(t, 3, "", "d")
	checkFirst(t, []*Box[string]{b}, 0, "a")
	for _, want := range []string{"b", "c"} {
		if i, x, ok := First(nil, b, b, c, b); i != 1 || x != want || !ok {
			t.Fatalf("First is %d, %q, %t", i, x, ok)
		}
	}
	checkFirst(t, []*Box[string]{b, c}, 1, "")
	checkFirst(t, []*Box[string]{b, c}, 1, "d")
	checkFirst(t, []*Box[string]{b, c}, -1, "")
}

// 35.2: for each choice of boxes that are empty, closed, nil or have elements.
func TestFirstMany(t *testing.T) {
	const kinds = 6
	for n := range 5 {
		for row := range int(math.Pow(kinds, float64(n))) {
			var l []*Box[string]
			want := -1
			for i := range n {
				b := newBox[string](t, 2)
				switch row % kinds {
				case 1:
					b = nil
				case 2:
					b = &Box[string]{}
				case 3:
					b.Shut()
				case 4, 5:
					b.Send("x")
					b.Send("y")
					if want < 0 {
						want = i
					}
				}
				if row%kinds == 5 {
					b.Shut()
				}
				l = append(l, b)
				row /= kinds
			}
			if want < 0 {
				checkFirst(t, l, -1, "")
				continue
			}
			checkFirst(t, l, want, "x")
			checkFirst(t, l, want, "y")
		}
	}
}

// list is a box by the definition: a plain list.
type list struct {
	room int
	shut bool
	l    []int
}

func (m *list) send(x int) bool {
	if m.shut || len(m.l) == m.room {
		return false
	}
	m.l = append(m.l, x)
	return true
}

func (m *list) some(n int) []int {
	n = min(max(n, 0), len(m.l))
	l := m.l[:n:n]
	m.l = m.l[n:]
	return l
}

// pair is a box and what it should be.
type pair struct {
	t *testing.T
	b *Box[int]
	m *list
}

// do lets both do a step, of which the kind is below 6.
func (p pair) do(kind, x int) {
	p.t.Helper()
	var got, want []any
	switch kind {
	case 0:
		got, want = []any{p.b.Send(x)}, []any{p.m.send(x)}
	case 1:
		y, ok := p.b.Take()
		got, want = []any{y, ok}, taken(p.m)
	case 2:
		got, want = []any{slices.Equal(p.b.Some(x), p.m.some(x))}, []any{true}
	case 3:
		got, want = []any{p.b.Shut()}, []any{!p.m.shut}
		p.m.shut = true
	case 4:
		i, y, ok := First(p.b)
		got, want = []any{y, ok, i}, append(taken(p.m), 0)
	case 5:
		i, y, ok := First(nil, p.b)
		want = taken(p.m)
		got, want = []any{y, ok, i}, append(want, map[bool]int{true: 1}[want[1].(bool)])
	}
	if !slices.Equal(got, want) {
		p.t.Fatalf("step %d with %d gives %v, not %v", kind, x, got, want)
	}
	checkState(p.t, p.b, !p.m.shut, len(p.m.l))
}

// taken takes an element from a list.
func taken(m *list) []any {
	l := m.some(1)
	if len(l) == 0 {
		return []any{0, false}
	}
	return []any{l[0], true}
}

// 35.1, 35.2, 35.3: all short sequences of steps, against a plain list.
func TestAllShort(t *testing.T) {
	for room := 1; room <= 3; room++ {
		for row := range 1 << 15 {
			p := pair{t, newBox[int](t, room), &list{room: room}}
			for i := range 7 {
				switch row >> (2 * i) & 3 {
				case 0:
					p.do(0, i+1)
				case 1:
					p.do(1, 0)
				case 2:
					p.do(3, 0)
				case 3:
					p.do(2, 2)
				}
			}
		}
	}
}

// 35.1, 35.2, 35.3: long rows of steps, against a plain list.
func TestLong(t *testing.T) {
	for seed := range uint64(200) {
		next := random(seed)
		room := []int{1, 2, 3, 10, 100, 4096}[next(6)]
		p := pair{t, newBox[int](t, room), &list{room: room}}
		for i := range 3000 {
			// Now rather more is sent than taken, and now less.
			switch kind := next(20); {
			case kind < 4+6*(i/500%2):
				p.do(0, i)
			case kind < 15:
				p.do([]int{1, 1, 4, 5}[next(4)], 0)
			case kind == 15:
				p.do(2, next(7)-2)
			case i > 2000 && next(300) == 0:
				p.do(3, 0)
			}
		}
		p.do(3, 0)
		p.do(0, 5)
		p.do(2, 5000)
		checkEmpty(t, p.b)
	}
}

// 35.3: elements are taken in the order in which they were sent, by each call
// that takes them, also after the box was closed.
func TestOrder(t *testing.T) {
	for shutAt := range 41 {
		b := newBox[int](t, 10)
		next := random(uint64(shutAt))
		var sent, got []int
		for i := range 40 {
			if i == shutAt {
				b.Shut()
			}
			for range next(4) {
				if x := len(sent); b.Send(x) {
					sent = append(sent, x)
				}
			}
			switch next(4) {
			case 0:
				if x, ok := b.Take(); ok {
					got = append(got, x)
				}
			case 1:
				if _, x, ok := First(b, b); ok {
					got = append(got, x)
				}
			case 2:
				got = append(got, b.Some(next(3))...)
			}
		}
		b.Shut()
		got = append(got, b.Some(99)...)
		if !slices.Equal(got, sent) || shutAt > 20 && len(sent) < 15 {
			t.Errorf("%v were sent, %v taken", sent, got)
		}
	}
}

// checkElements tells whether elements of a type are taken as they were sent,
// and whether zero values that were sent are told from nothing.
func checkElements[T any](t *testing.T, l ...T) {
	t.Helper()
	var none T
	l = append(l, none)
	for _, x := range l {
		b := filled(t, 4096, x, none, x)
		b.Shut()
		y, ok := b.Take()
		z, is := b.Take()
		if !reflect.DeepEqual(x, y) || !ok || !reflect.DeepEqual(none, z) || !is {
			t.Fatalf("Take is %v, %t, and %v, %t", y, ok, z, is)
		}
		if i, y, ok := First(nil, b); i != 1 || !reflect.DeepEqual(x, y) || !ok {
			t.Fatalf("First is %d, %v, %t", i, y, ok)
		}
		if y, ok := b.Take(); !reflect.DeepEqual(none, y) || ok {
			t.Fatalf("Take is %v, %t", y, ok)
		}
	}
	if got := filled(t, len(l), l...).Some(len(l)); !reflect.DeepEqual(got, l) {
		t.Fatalf("Some is %v, not %v", got, l)
	}
}

// 35.1: elements of any type, and their zero values. (A channel alone would not
// hold the greatest of them.)
func TestElements(t *testing.T) {
	n := 5
	checkElements(t, 1, -1, 0)
	checkElements(t, "", "a", "\x00")
	checkElements(t, false, true)
	checkElements(t, struct{}{})
	checkElements(t, [0]int{})
	checkElements(t, &n, nil)
	checkElements[any](t, 5, "a", nil, []int(nil))
	checkElements[error](t, errors.New("a"), nil)
	checkElements(t, []byte("ab"), nil, []byte{})
	checkElements(t, map[string]int{"a": 1}, nil)
	checkElements(t, math.Inf(1), 0, -1.5)
	checkElements(t, api.Config{}, api.Config{MTU: 5, Flows: []api.Flow{{ID: 1}}})
	checkElements(t, [65535]byte{65534: 7})
	checkElements(t, [65536]byte{65535: 7})
	checkElements(t, [70000]byte{69999: 7})
	checkElements[chan int](t, nil, make(chan int))
	checkElements(t, newBox[int](t, 1))
	f := filled(t, 2, func() int { return 7 }, nil)
	if x, ok := f.Take(); x() != 7 || !ok {
		t.Error("Take of a function")
	}
	if x, ok := f.Take(); x != nil || !ok {
		t.Error("Take of no function")
	}
}

// 35.1: values are copied when they are sent.
func TestCopied(t *testing.T) {
	b := newBox[[2]int](t, 3)
	x := [2]int{1, 2}
	b.Send(x)
	x[0] = 9
	b.Send(x)
	x[0] = 8
	checkTake(t, b, [2]int{1, 2}, [2]int{9, 2})
}

// checkNotMade tells whether a box is one that New did not make.
func checkNotMade(t *testing.T, b *Box[int]) {
	t.Helper()
	for range 2 {
		if b.Send(5) || b.Shut() || b.Open() || b.Len() != 0 {
			t.Fatalf("a box that New did not make: Send, Shut or Open is true, or Len is %d", b.Len())
		}
		if x, ok := b.Take(); x != 0 || ok {
			t.Fatalf("Take is %d, %t", x, ok)
		}
		for _, n := range []int{math.MinInt, -1, 0, 1, math.MaxInt} {
			if l := b.Some(n); len(l) != 0 {
				t.Fatalf("Some(%d) is %v", n, l)
			}
		}
		if i, x, ok := First(b, b); i != 0 || x != 0 || ok {
			t.Fatalf("First is %d, %d, %t", i, x, ok)
		}
	}
}

// 35.2, P1: boxes that New did not make store nothing, in any order of calls.
func TestNotMade(t *testing.T) {
	refused, _ := New[int](0)
	for _, b := range []*Box[int]{nil, {}, new(Box[int]), refused} {
		checkNotMade(t, b)
		b.Shut()
		checkNotMade(t, b)
		c := filled(t, 1, 6)
		if i, x, ok := First(b, c); i != 1 || x != 6 || !ok {
			t.Errorf("First is %d, %d, %t", i, x, ok)
		}
		checkNotMade(t, b)
	}
}

// P2: boxes know nothing of each other.
func TestTwoBoxes(t *testing.T) {
	a, b := filled(t, 2, 1, 2), filled(t, 2, 3)
	a.Shut()
	checkState(t, b, true, 1)
	if !b.Send(4) {
		t.Error("Send")
	}
	checkTake(t, a, 1, 2)
	checkTake(t, b, 3, 4)
}

// LANGUAGE.md, 8: a box does not keep what was taken.
func TestTakenIsGone(t *testing.T) {
	b := newBox[*[100]int](t, 4)
	var sent []weak.Pointer[[100]int]
	for range 4 {
		x := new([100]int)
		sent = append(sent, weak.Make(x))
		b.Send(x)
	}
	b.Take()
	b.Some(1)
	First(b)
	runtime.GC()
	for i, x := range sent {
		if gone := x.Value() == nil; gone != (i < 3) {
			t.Errorf("element %d is gone: %t", i, gone)
		}
	}
	runtime.KeepAlive(b)
}
