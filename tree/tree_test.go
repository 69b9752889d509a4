package tree

import (
	"math"
	"slices"
	"testing"

	"pacemaker/api"
)

// packet is one with this number and length.
func packet(id uint32, n uint64) api.Packet {
	return api.Packet{ID: id, Len: n}
}

// put pushes a packet, which there must be room for.
func (b *both) put(now uint64, leaf int, p api.Packet) {
	b.t.Helper()
	if err := b.push(now, leaf, p); err != api.OK {
		b.t.Fatalf("Push(%d, %d, %v) is %d", now, leaf, p, err)
	}
}

// leaves tells whether packets with these numbers can leave, and no other one,
// and which error comes then.
func (b *both) leaves(now uint64, err api.Errno, ids ...uint32) {
	b.t.Helper()
	for _, id := range ids {
		if p, err := b.pop(now); p.ID != id || err != api.OK {
			b.t.Fatalf("Pop(%d) is %v, %d, not %d", now, p, err, id)
		}
	}
	if p, e := b.pop(now); p != (api.Packet{}) || e != err {
		b.t.Fatalf("Pop(%d) is %v, %d, not %d", now, p, e, err)
	}
}

// is tells how a tree stands: its time, how many packets wait, how many nodes
// are held, and how many elements wait in each node.
func (b *both) is(now uint64, packets, held int, waits ...int) {
	b.t.Helper()
	if b.tree.Now() != now || b.tree.Len() != packets || b.tree.Held() != held {
		b.t.Fatalf("Now is %d, Len is %d, Held is %d, not %d, %d, %d", b.tree.Now(), b.tree.Len(), b.tree.Held(), now, packets, held)
	}
	for i, n := range waits {
		if got := b.tree.Waits(i); got != n {
			b.t.Fatalf("Waits(%d) is %d, not %d", i, got, n)
		}
	}
}

// fair tells what the virtual time of a node is, and what its children's tags
// are.
func (b *both) fair(node int, virtual uint64, tags ...uint64) {
	b.t.Helper()
	if got := b.tree.nodes[node].virtual; got != virtual {
		b.t.Fatalf("the virtual time of node %d is %d, not %d", node, got, virtual)
	}
	var got []uint64
	for _, v := range b.tree.nodes[1:] {
		if v.Parent == node {
			got = append(got, v.tag)
		}
	}
	if !slices.Equal(got, tags) {
		b.t.Fatalf("the tags below node %d are %v, not %v", node, got, tags)
	}
}

// repeated returns a root and so many children of it.
func repeated(n int, root, child api.Node) []api.Node {
	return append([]api.Node{root}, slices.Repeat([]api.Node{child}, n)...)
}

// 30.1
func TestKinds(t *testing.T) {
	if First != 1 || Least != 2 || Fair != 3 {
		t.Error(First, Least, Fair)
	}
}

// checkNew tells whether New returns an error.
func checkNew(t *testing.T, want api.Errno, room int, nodes ...api.Node) {
	t.Helper()
	if tree, err := New(nodes, room); tree != nil || err != want {
		t.Errorf("New(%v, %d) is %v, %d, not %d", nodes, room, tree, err, want)
	}
}

// 30.1: how many nodes and how much room there can be, and which error comes
// first.
func TestNew(t *testing.T) {
	root := api.Node{Kind: First}
	wrong := []int{0, -1, 4097, 8192, math.MinInt, math.MaxInt}
	for _, room := range append(wrong, 1, 2, 4096) {
		checkNew(t, api.ErrFlows, room)
		checkNew(t, api.ErrFlows, room, []api.Node{}...)
		checkNew(t, api.ErrFlows, room, repeated(32, root, root)...)
		checkNew(t, api.ErrFlows, room, make([]api.Node, 33)...)
		checkNew(t, api.ErrFlows, room, make([]api.Node, 100)...)
		checkNew(t, api.ErrArg, room, make([]api.Node, 32)...)
		checkNew(t, api.ErrArg, room, root, api.Node{Kind: First, Parent: 1})
	}
	for _, room := range wrong {
		checkNew(t, api.ErrCaps, room, root)
		checkNew(t, api.ErrCaps, room, repeated(31, root, root)...)
	}
	for _, room := range []int{1, 2, 4095, 4096} {
		for _, n := range []int{0, 1, 2, 30, 31} {
			newBoth(t, room, repeated(n, root, root)...).leaves(5, api.ErrEmpty)
		}
	}
}

// 30.1: the kinds and the parents that there can be, of each node.
func TestNodes(t *testing.T) {
	chain := make([]api.Node, 32)
	for i := range chain {
		chain[i] = api.Node{Kind: 1 + i%3, Parent: max(0, i-1)}
	}
	newBoth(t, 1, chain...)
	for i := range chain {
		for _, kind := range []int{0, -1, -2, 4, 5, math.MinInt, math.MaxInt, 1 << 32, 1<<32 + 1} {
			nodes := slices.Clone(chain)
			nodes[i].Kind = kind
			checkNew(t, api.ErrArg, 1, nodes...)
			checkNew(t, api.ErrArg, 1, nodes[:i+1]...)
			checkNew(t, api.ErrArg, 0, nodes...)
		}
		for parent := -3; parent < 40; parent++ {
			nodes := slices.Clone(chain)
			nodes[i].Parent = parent
			if parent == 0 || parent >= 0 && parent < i {
				newBoth(t, 1, nodes...)
				continue
			}
			checkNew(t, api.ErrArg, 1, nodes...)
			checkNew(t, api.ErrArg, 1, nodes[:i+1]...)
		}
		for _, parent := range []int{math.MinInt, math.MaxInt, 1 << 32, -1 << 32} {
			nodes := slices.Clone(chain)
			nodes[i].Parent = parent
			checkNew(t, api.ErrArg, 1, nodes...)
		}
	}
}

// 30.2, the chapter's example.
func TestExample(t *testing.T) {
	b := newBoth(t, 9, api.Node{Kind: Least}, api.Node{Kind: First, Weight: 5}, api.Node{Kind: First, Weight: 1})
	b.put(0, 1, packet(1, 10))
	b.put(0, 2, packet(2, 10))
	b.put(0, 1, packet(3, 10))
	b.put(0, 2, packet(4, 10))
	b.leaves(0, api.ErrEmpty, 2, 4, 1, 3)
}

// 30.2, 30.3: a root that is a leaf. Its Weight and its Gap are of no use.
func TestRootIsLeaf(t *testing.T) {
	for kind, want := range [][]uint32{First: {1, 2, 3, 4, 5}, Least: {4, 2, 3, 5, 1}, Fair: {3, 1, 5, 4, 2}} {
		if kind == 0 {
			continue
		}
		for _, gap := range []uint64{0, 1, most} {
			b := newBoth(t, 5, api.Node{Kind: kind, Gap: gap, Weight: gap})
			b.put(7, 0, api.Packet{Flow: 3, ID: 1, Len: 65535})
			b.put(7, 0, api.Packet{Flow: math.MaxUint32, ID: 2, Len: 100})
			b.put(8, 0, api.Packet{Flow: 0, ID: 3, Len: 100})
			b.put(3, 0, api.Packet{Flow: 4, ID: 4, Len: 1})
			b.put(9, 0, api.Packet{Flow: 3, ID: 5, Len: 100})
			b.is(9, 5, 0, 5)
			b.leaves(2, api.ErrEmpty, want...)
			b.is(9, 0, 0, 0)
			b.fair(0, 0)
		}
	}
}

// 30.2: packets in leaves of each kind, below roots of each kind.
func TestLeafKinds(t *testing.T) {
	for root := First; root <= Fair; root++ {
		for kind, want := range [][]uint32{First: {1, 2, 3, 4}, Least: {3, 1, 4, 2}, Fair: {2, 3, 1, 4}} {
			if kind == 0 {
				continue
			}
			b := newBoth(t, 4, api.Node{Kind: root}, api.Node{Kind: kind, Weight: 3})
			b.put(0, 1, api.Packet{Flow: 9, ID: 1, Len: 10})
			b.put(0, 1, api.Packet{Flow: 1, ID: 2, Len: 11})
			b.put(0, 1, api.Packet{Flow: 8, ID: 3, Len: 9})
			b.put(0, 1, api.Packet{Flow: 9, ID: 4, Len: 10})
			b.is(0, 4, 0, 4, 4)
			b.leaves(0, api.ErrEmpty, want...)
		}
	}
}

// 30.2: a parent of the kind First takes its children in the order in which
// they came, whatever their Weights are, and one of the kind Least by Weights.
func TestParentKinds(t *testing.T) {
	weights := []uint64{3, 0, most, 1, 3}
	for kind, want := range [][]uint32{First: {0, 1, 2, 3, 4, 5, 6, 7, 8, 9}, Least: {1, 6, 3, 8, 0, 4, 5, 9, 2, 7}} {
		if kind == 0 {
			continue
		}
		nodes := []api.Node{{Kind: kind}}
		for i, weight := range weights {
			nodes = append(nodes, api.Node{Kind: 1 + i%3, Weight: weight})
		}
		b := newBoth(t, 10, nodes...)
		for i := range 10 {
			b.put(0, 1+i%5, packet(uint32(i), uint64(20-i/5)))
		}
		// Leaf 2 is of the kind Least: the later packet leaves it first. Leaf 5 as
		// well.
		want = slices.Clone(want)
		for _, pair := range [][2]uint32{{1, 6}, {4, 9}} {
			i, j := slices.Index(want, pair[0]), slices.Index(want, pair[1])
			want[i], want[j] = want[j], want[i]
		}
		b.leaves(0, api.ErrEmpty, want...)
	}
}

// 30.2, 30.3: tags and the virtual time of a node of the kind Fair.
func TestFair(t *testing.T) {
	b := newBoth(t, 9, api.Node{Kind: Fair}, api.Node{Kind: First, Weight: 1}, api.Node{Kind: First, Weight: 2}, api.Node{Kind: First})
	for i, tag := range []uint64{10, 20, 30} {
		b.put(0, 1, packet(uint32(1+i), 10))
		b.fair(0, 0, tag, 0, 0)
	}
	for i, tag := range []uint64{20, 40, 60} {
		b.put(0, 2, packet(uint32(11+i), 10))
		b.fair(0, 0, 30, tag, 0)
	}
	// The ranks are 0, 10 and 20; 0, 20 and 40.
	for _, x := range []struct {
		id      uint32
		virtual uint64
	}{{1, 0}, {11, 0}, {2, 10}, {3, 20}, {12, 20}, {13, 40}} {
		if p, err := b.pop(0); p.ID != x.id || err != api.OK {
			t.Errorf("Pop is %v, %d, not %d", p, err, x.id)
		}
		b.fair(0, x.virtual, 30, 60, 0)
	}
	// One whose tag is less than the virtual time begins there, and a Weight of 0
	// adds nothing.
	b.put(0, 1, packet(4, 10))
	b.fair(0, 40, 50, 60, 0)
	b.put(0, 3, packet(21, 65535))
	b.put(0, 3, packet(22, 65535))
	b.fair(0, 40, 50, 60, 40)
	b.put(0, 2, packet(14, 1))
	b.put(0, 1, packet(5, 3))
	b.fair(0, 40, 53, 62, 40)
	b.leaves(0, api.ErrEmpty, 4, 21, 22, 5, 14)
	b.fair(0, 60, 53, 62, 40)
}

// 30.2: tags are capped.
func TestCappedTags(t *testing.T) {
	b := newBoth(t, 9, api.Node{Kind: Fair}, api.Node{Kind: First, Weight: most}, api.Node{Kind: First, Weight: most / 2}, api.Node{Kind: First, Weight: 1 << 48})
	b.put(0, 1, packet(1, 1))
	b.fair(0, 0, most, 0, 0)
	b.put(0, 1, packet(2, 65535))
	b.fair(0, 0, most, 0, 0)
	b.put(0, 2, packet(3, 2))
	b.fair(0, 0, most, most-1, 0)
	b.put(0, 2, packet(4, 1))
	b.fair(0, 0, most, most, 0)
	b.put(0, 3, packet(5, 65535))
	b.fair(0, 0, most, most, 65535<<48)
	b.put(0, 3, packet(6, 1))
	b.fair(0, 0, most, most, most)
	b.put(0, 3, packet(7, 1))
	b.leaves(0, api.ErrEmpty, 1, 3, 5, 6, 4, 2, 7)
	b.fair(0, most, most, most, most)
	// From then on all ranks are the greatest one.
	b.put(0, 2, packet(8, 1))
	b.put(0, 1, packet(9, 1))
	b.put(0, 3, packet(10, 1))
	b.put(0, 2, packet(11, 1))
	b.leaves(0, api.ErrEmpty, 8, 9, 10, 11)
}

// 30.2, 30.3: nodes of the kind Fair have virtual times of their own.
func TestFairBelowFair(t *testing.T) {
	b := newBoth(t, 9,
		api.Node{Kind: Fair},
		api.Node{Kind: Fair, Weight: 1},
		api.Node{Kind: First, Weight: 3},
		api.Node{Kind: First, Parent: 1, Weight: 5},
		api.Node{Kind: First, Parent: 1, Weight: 1})
	b.put(0, 3, packet(1, 10))
	b.put(0, 3, packet(2, 10))
	b.put(0, 4, packet(3, 10))
	b.put(0, 4, packet(4, 10))
	b.put(0, 2, packet(5, 4))
	b.put(0, 2, packet(6, 4))
	b.fair(0, 0, 40, 24)
	b.fair(1, 0, 100, 20)
	// Of the root, node 1 has the ranks 0, 10, 20 and 30, and node 2 has 0 and 12.
	for _, x := range []struct {
		id         uint32
		root, node uint64
	}{{1, 0, 0}, {5, 0, 0}, {3, 10, 0}, {6, 12, 0}, {4, 20, 10}, {2, 30, 50}} {
		if p, err := b.pop(0); p.ID != x.id || err != api.OK {
			t.Errorf("Pop is %v, %d, not %d", p, err, x.id)
		}
		b.fair(0, x.root, 40, 24)
		b.fair(1, x.node, 100, 20)
	}
	b.put(0, 4, packet(7, 1))
	b.fair(0, 30, 41, 24)
	b.fair(1, 50, 100, 51)
}

// 30.2: what Push refuses, in which order, and that it changes nothing but the
// time.
func TestPushErrors(t *testing.T) {
	b := newBoth(t, 2, api.Node{Kind: First}, api.Node{Kind: First}, api.Node{Kind: First, Parent: 1, Gap: 3})
	now := uint64(0)
	refused := func(leaf int, n uint64, want api.Errno) {
		t.Helper()
		now++
		if err := b.push(now, leaf, packet(9, n)); err != want || b.tree.Now() != now {
			t.Errorf("Push to %d of %d bytes is %d, not %d, at %d", leaf, n, err, want, b.tree.Now())
		}
	}
	each := func(n uint64, err api.Errno) {
		t.Helper()
		for _, leaf := range []int{-1, 3, 4, 32, math.MinInt, math.MaxInt, 1 << 32, -1 << 32} {
			refused(leaf, n, api.ErrNone)
		}
		refused(0, n, api.ErrArg)
		refused(1, n, api.ErrArg)
		if err != api.OK {
			refused(2, n, err)
		}
	}
	wrong := []uint64{0, 65536, 65537, 1 << 32, 1<<32 + 1, most}
	for range 2 {
		for _, n := range wrong {
			each(n, api.ErrLen)
		}
		each(1, api.OK)
	}
	b.put(now, 2, packet(1, 65535))
	b.put(now, 2, packet(2, 1))
	for _, n := range wrong {
		each(n, api.ErrLen)
	}
	each(1, api.ErrFull)
	each(65535, api.ErrFull)
	b.is(now, 2, 1, 1, 1, 2)
	b.leaves(now, api.ErrNotYet, 1)
	b.put(now, 2, packet(3, 1))
	refused(2, 1, api.ErrFull)
	b.leaves(most, api.ErrEmpty, 2, 3)
}

// 30.1, 30.2: all the room that there can be, and that it is that of all leaves
// together.
func TestRoom(t *testing.T) {
	for _, room := range []int{1, 2, 64, 4095, 4096} {
		tree, err := New([]api.Node{{Kind: First}, {Kind: Least, Gap: 7, Weight: 1}, {Kind: Fair, Weight: 2}, {Kind: Fair, Parent: 2, Gap: 1}, {Kind: First, Parent: 2}}, room)
		if err != api.OK {
			t.Fatal(err)
		}
		for i := range room {
			if err := tree.Push(uint64(i/3), []int{1, 3, 4}[i%3], packet(uint32(i), 50)); err != api.OK {
				t.Fatalf("packet %d of %d is %d", i, room, err)
			}
		}
		for _, leaf := range []int{1, 3, 4} {
			if err := tree.Push(0, leaf, packet(0, 1)); err != api.ErrFull {
				t.Errorf("one more than %d is %d", room, err)
			}
		}
		left := make([]bool, room)
		for range room {
			p, err := tree.Pop(most)
			if err != api.OK || left[p.ID] {
				t.Fatalf("Pop is %v, %d", p, err)
			}
			left[p.ID] = true
		}
		if _, err := tree.Pop(most); err != api.ErrEmpty || tree.Len() != 0 {
			t.Errorf("Pop is %d", err)
		}
	}
}

// 30.2, 30.3: what Pop answers if nothing can leave, and when something can.
func TestPopErrors(t *testing.T) {
	b := newBoth(t, 9, api.Node{Kind: First}, api.Node{Kind: First, Gap: 10}, api.Node{Kind: First, Parent: 1})
	b.leaves(5, api.ErrEmpty)
	b.is(5, 0, 0, 0, 0, 0)
	b.put(5, 2, packet(1, 3))
	b.leaves(5, api.ErrEmpty, 1)
	b.put(6, 2, packet(2, 1))
	b.is(6, 1, 1, 0, 1, 1)
	b.leaves(7, api.ErrNotYet)
	b.leaves(34, api.ErrNotYet)
	b.leaves(8, api.ErrNotYet)
	b.is(34, 1, 1, 0, 1, 1)
	b.leaves(35, api.ErrEmpty, 2)
	b.is(35, 0, 0, 0, 0, 0)
	b.put(0, 2, packet(3, 1))
	b.leaves(44, api.ErrNotYet)
	b.put(45, 2, packet(4, 1))
	b.is(45, 2, 1, 1, 2, 2)
	b.leaves(0, api.ErrNotYet, 3)
	b.leaves(54, api.ErrNotYet)
	b.leaves(56, api.ErrEmpty, 4)
}

// 30.2: time goes on where Push answers an error, and with it what is held.
func TestTimeGoesOn(t *testing.T) {
	b := newBoth(t, 2, api.Node{Kind: First}, api.Node{Kind: First, Gap: 1})
	errors := []struct {
		leaf int
		n    uint64
		want api.Errno
	}{{5, 1, api.ErrNone}, {-1, 1, api.ErrNone}, {0, 1, api.ErrArg}, {1, 0, api.ErrLen}, {1, 65536, api.ErrLen}, {1, 1, api.ErrFull}}
	for i, x := range errors {
		start := uint64(100 * i)
		b.put(start, 1, packet(1, 20))
		b.put(start, 1, packet(2, 1))
		for _, y := range []struct {
			now  uint64
			held int
		}{{start + 19, 1}, {start + 20, 0}, {start + 18, 0}} {
			if err := b.push(y.now, x.leaf, packet(3, x.n)); err != x.want {
				t.Errorf("Push is %d, not %d", err, x.want)
			}
			b.is(max(y.now, b.now), 2, y.held, 2-y.held, 2)
		}
		b.is(start+20, 2, 0, 2, 2)
		b.leaves(0, api.ErrEmpty, 1, 2)
	}
}

// 30.2: a now that is less than the time of the tree counts as that.
func TestTimeNeverDecreases(t *testing.T) {
	b := newBoth(t, 9, api.Node{Kind: First}, api.Node{Kind: First, Gap: 2})
	b.put(100, 1, packet(1, 5))
	b.put(3, 1, packet(2, 5))
	b.is(100, 2, 1, 1, 2)
	b.leaves(50, api.ErrNotYet, 1)
	b.leaves(109, api.ErrNotYet)
	b.leaves(110, api.ErrEmpty, 2)
	// From 120 on it is free again.
	b.put(0, 1, packet(3, 1))
	b.leaves(119, api.ErrNotYet)
	b.put(121, 1, packet(4, 1))
	b.leaves(0, api.ErrNotYet, 3)
	b.leaves(122, api.ErrEmpty, 4)
	b.put(130, 1, packet(5, 1))
	b.put(7, 1, packet(6, 1))
	b.leaves(7, api.ErrNotYet, 5)
	b.leaves(most, api.ErrEmpty, 6)
	b.put(0, 1, packet(7, 1))
	b.is(most, 1, 0, 1, 1)
	b.leaves(0, api.ErrEmpty, 7)
}

// 30.2: a node is held for many packets, one behind the other.
func TestHeldForMany(t *testing.T) {
	b := newBoth(t, 100, api.Node{Kind: First}, api.Node{Kind: First, Gap: 3})
	at := uint64(10)
	var times []uint64
	for i := range 50 {
		n := uint64(1 + i*i%7)
		b.put(10, 1, packet(uint32(i), n))
		times = append(times, at)
		at += 3 * n
		b.is(10, i+1, i, 1, i+1)
	}
	for i, at := range times {
		if i > 0 {
			b.leaves(at-1, api.ErrNotYet)
		}
		held := 49 - i
		b.push(at, -1, api.Packet{})
		b.is(at, 50-i, held, 1, 50-i)
		err := api.ErrNotYet
		if i == 49 {
			err = api.ErrEmpty
		}
		b.leaves(at, err, uint32(i))
	}
}

// 30.2: nodes that are held until the same time come into the root in the order
// in which they were held.
func TestHeldTogether(t *testing.T) {
	b := newBoth(t, 20, repeated(5, api.Node{Kind: First}, api.Node{Kind: First, Gap: 1})...)
	for i, leaf := range []int{3, 1, 5, 2, 4} {
		b.put(0, leaf, packet(uint32(i), 7))
	}
	b.leaves(0, api.ErrEmpty, 0, 1, 2, 3, 4)
	for i, leaf := range []int{2, 5, 1, 4, 3} {
		b.put(uint64(i), leaf, packet(uint32(10+i), 1))
	}
	b.is(4, 5, 5, 0, 1, 1, 1, 1, 1)
	b.leaves(6, api.ErrNotYet)
	b.leaves(7, api.ErrEmpty, 10, 11, 12, 13, 14)
}

// 30.2: a node with a Gap into which a node comes is held behind those that are
// held until the same time already, also if it is free.
func TestHeldBehind(t *testing.T) {
	b := newBoth(t, 9,
		api.Node{Kind: First},
		api.Node{Kind: First, Gap: 1},
		api.Node{Kind: First, Parent: 1, Gap: 2},
		api.Node{Kind: First, Gap: 2})
	b.put(0, 2, packet(1, 5))
	b.put(0, 2, packet(2, 5))
	b.put(0, 3, packet(3, 5))
	b.put(0, 3, packet(4, 5))
	b.is(0, 4, 2, 2, 1, 2, 2)
	// At 10, node 2 comes into node 1, which is held until 10, then node 3 comes
	// into the root, and then node 1.
	b.leaves(9, api.ErrNotYet, 1, 3)
	b.leaves(10, api.ErrEmpty, 4, 2)

	// A packet that comes at a time is behind what is held until then.
	b.put(100, 3, packet(5, 5))
	b.put(100, 3, packet(6, 5))
	b.put(110, 2, packet(7, 1))
	b.leaves(110, api.ErrEmpty, 5, 6, 7)
}

// 30.2: what is held at several levels comes in the order of times, however far
// the time goes on at once.
func TestHeldAtLevels(t *testing.T) {
	for _, steps := range [][]uint64{{40}, {5, 40}, {1, 2, 3, 4, 5, 6, 7, 8, 9, 10, 11, 12, 13, 14, 15, 20, 30, 40}, {12, 13, 40}} {
		b := newBoth(t, 9,
			api.Node{Kind: First},
			api.Node{Kind: First, Gap: 4},
			api.Node{Kind: First, Parent: 1, Gap: 1},
			api.Node{Kind: First, Gap: 3})
		b.put(0, 2, packet(1, 3)) // to the root at 0; node 2 is free from 3 on, node 1 from 12 on
		b.put(0, 2, packet(2, 2)) // to node 1 at 3, to the root at 12; they are free from 5 and 20 on
		b.put(0, 2, packet(3, 1)) // to node 1 at 5, to the root at 20
		b.put(0, 3, packet(4, 4)) // to the root at 0; node 3 is free from 12 on
		b.put(0, 3, packet(5, 1)) // to the root at 12, for which it is held since 0; free from 15 on
		b.put(0, 3, packet(6, 1)) // to the root at 15
		b.is(0, 6, 4, 2, 1, 3, 3)
		for _, now := range steps {
			b.push(now, -1, api.Packet{})
		}
		b.is(40, 6, 0, 6, 3, 3, 3)
		b.leaves(40, api.ErrEmpty, 1, 4, 5, 2, 6, 3)
	}
}

// 30.2: a Gap of the root is of no use, and a Gap below it is, at each level.
func TestChain(t *testing.T) {
	for _, n := range []int{1, 2, 3, 31, 32} {
		for kind := First; kind <= Fair; kind++ {
			plain, slow := make([]api.Node, n), make([]api.Node, n)
			for i := range plain {
				plain[i] = api.Node{Parent: max(0, i-1), Kind: kind, Weight: 1}
				slow[i] = plain[i]
				slow[i].Gap = uint64(i + 1)
			}
			a, b := newBoth(t, 9, plain...), newBoth(t, 9, slow...)
			for i := range uint32(3) {
				a.put(0, n-1, packet(i, 2))
				b.put(0, n-1, packet(i, 2))
			}
			a.leaves(0, api.ErrEmpty, 0, 1, 2)
			if n == 1 {
				b.leaves(0, api.ErrEmpty, 0, 1, 2)
				continue
			}
			// The slowest node is the leaf: the others are free when it isn't.
			gap := uint64(2 * n)
			b.leaves(gap-1, api.ErrNotYet, 0)
			b.leaves(2*gap-1, api.ErrNotYet, 1)
			b.leaves(2*gap, api.ErrEmpty, 2)
		}
	}
}

// 30.2: as wide a tree as there can be.
func TestWide(t *testing.T) {
	b := newBoth(t, 100, repeated(31, api.Node{Kind: Fair}, api.Node{Kind: Least, Weight: 1})...)
	for i := range 93 {
		b.put(0, 1+i*7%31, packet(uint32(i), 1))
	}
	for i := range uint32(93) {
		if p, err := b.pop(0); p.ID != i || err != api.OK {
			t.Errorf("Pop is %v, %d, not %d", p, err, i)
		}
	}
}

// 30.2: the time from which a node is free is capped, and so what is held until
// the greatest time leaves then.
func TestCappedGap(t *testing.T) {
	for _, x := range []struct{ gap, n uint64 }{{most, 1}, {most, 65535}, {1 << 63, 2}, {1 << 48, 65535}, {most/65535 + 1, 65535}, {most - 5, 1}} {
		b := newBoth(t, 9, api.Node{Kind: First}, api.Node{Kind: First, Gap: x.gap}, api.Node{Kind: First})
		b.put(1<<48, 1, packet(1, x.n))
		b.put(1<<48, 1, packet(2, x.n))
		b.put(1<<48, 1, packet(3, 1))
		b.put(1<<48, 2, packet(4, 1))
		b.is(1<<48, 4, 2, 2, 3, 1)
		b.leaves(most-1, api.ErrNotYet, 1, 4)
		b.leaves(most, api.ErrEmpty, 2, 3)
		b.put(most, 1, packet(5, x.n))
		b.leaves(0, api.ErrEmpty, 5)
	}
	// Just not capped.
	b := newBoth(t, 9, api.Node{Kind: First}, api.Node{Kind: First, Gap: most / 65535})
	b.put(0, 1, packet(1, 65534))
	b.put(0, 1, packet(2, 1))
	b.put(0, 1, packet(3, 1))
	at := uint64(most / 65535 * 65534)
	b.leaves(at-1, api.ErrNotYet, 1)
	b.leaves(at, api.ErrNotYet, 2)
	b.leaves(most-1, api.ErrNotYet)
	b.leaves(most, api.ErrEmpty, 3)
}

// 30.2: the bytes that count for a parent are those of the packet that came,
// not of the one that leaves.
func TestBytesThatCame(t *testing.T) {
	b := newBoth(t, 9, api.Node{Kind: Fair}, api.Node{Kind: Least, Weight: 1, Gap: 2})
	b.put(0, 1, packet(1, 50))
	b.fair(0, 0, 50)
	b.put(0, 1, packet(2, 3))
	b.is(0, 2, 1, 1, 2)
	b.leaves(99, api.ErrNotYet, 2)
	b.fair(0, 0, 50)
	b.leaves(100, api.ErrEmpty, 1)
	b.fair(0, 50, 53)
}

// 30.4
func TestWaits(t *testing.T) {
	b := newBoth(t, 9, api.Node{Kind: First}, api.Node{Kind: First, Gap: 4}, api.Node{Kind: First, Parent: 1}, api.Node{Kind: First, Parent: 1})
	b.put(0, 2, packet(1, 1))
	b.put(0, 3, packet(2, 1))
	b.put(0, 3, packet(3, 1))
	b.is(0, 3, 2, 1, 3, 1, 2)
	for _, node := range []int{-1, 4, 5, 32, math.MinInt, math.MaxInt, 1 << 32, -1 << 32} {
		if n := b.tree.Waits(node); n != 0 {
			t.Errorf("Waits(%d) is %d", node, n)
		}
	}
}

// Ownership: a tree keeps no list that was handed in.
func TestOwnNodes(t *testing.T) {
	nodes := []api.Node{{Kind: Least}, {Kind: First, Weight: 5}, {Kind: First, Weight: 1}}
	before := slices.Clone(nodes)
	b := newBoth(t, 9, nodes...)
	tree, err := New(nodes, 9)
	if err != api.OK || !slices.Equal(nodes, before) {
		t.Errorf("New is %d, and the nodes became %v", err, nodes)
	}
	b.tree = tree
	clear(nodes)
	b.put(0, 1, packet(1, 1))
	b.put(0, 2, packet(2, 1))
	b.leaves(0, api.ErrEmpty, 2, 1)
}

// P2: trees know nothing of each other.
func TestTwoTrees(t *testing.T) {
	nodes := []api.Node{{Kind: Fair}, {Kind: First, Weight: 5, Gap: 1}, {Kind: First, Weight: 1}}
	a, b := newBoth(t, 4, nodes...), newBoth(t, 3, nodes...)
	for i := range 9 {
		a.push(uint64(i), 1+i%2, packet(uint32(i), 2))
		b.check()
		b.push(uint64(2*i), 1+i/2%2, packet(uint32(10+i), 5))
		a.check()
		if i%3 == 2 {
			a.pop(uint64(i))
			b.check()
		}
	}
	a.popAll(most)
	b.check()
	b.popAll(most)
}

// 30.4, P1: trees that New did not make.
func TestNotMade(t *testing.T) {
	for _, tree := range []*Tree{nil, {}, new(Tree)} {
		for _, now := range []uint64{0, 5, most} {
			for _, node := range []int{-1, 0, 1, math.MinInt, math.MaxInt} {
				for _, n := range []uint64{0, 1, 65536} {
					if err := tree.Push(now, node, packet(1, n)); err != api.ErrNil {
						t.Errorf("Push is %d", err)
					}
				}
				if tree.Waits(node) != 0 {
					t.Errorf("Waits is %d", tree.Waits(node))
				}
			}
			if p, err := tree.Pop(now); p != (api.Packet{}) || err != api.ErrNil {
				t.Errorf("Pop is %v, %d", p, err)
			}
			if tree.Len() != 0 || tree.Held() != 0 || tree.Now() != 0 {
				t.Errorf("Len is %d, Held is %d, Now is %d", tree.Len(), tree.Held(), tree.Now())
			}
		}
	}
}
