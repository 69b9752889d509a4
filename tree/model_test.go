package tree

import (
	"math"
	"math/big"
	"slices"
	"testing"

	"pacemaker/api"
)

const most = api.MaxU64

// element is what waits in a node: a child, or a packet.
type element struct {
	rank   uint64
	child  int
	packet api.Packet
}

// hold is a node that is held, and the bytes of the packet for which it is.
type hold struct {
	at    uint64
	node  int
	bytes uint64
}

// both is a tree, and what it should be by the chapter's definitions.
type both struct {
	t                  *testing.T
	tree               *Tree
	nodes              []api.Node
	room               int
	now                uint64
	waits              [][]element // in order
	held               []hold      // in order
	virtual, tag, free []uint64
}

// newBoth makes a tree of these nodes with room for so many packets.
func newBoth(t *testing.T, room int, nodes ...api.Node) *both {
	t.Helper()
	tree, err := New(nodes, room)
	if tree == nil || err != api.OK {
		t.Fatalf("New(%v, %d) is %v, %d", nodes, room, tree, err)
	}
	n := len(nodes)
	b := &both{
		t: t, tree: tree, nodes: slices.Clone(nodes), room: room, waits: make([][]element, n),
		virtual: make([]uint64, n), tag: make([]uint64, n), free: make([]uint64, n),
	}
	b.check()
	return b
}

// has tells whether there is such a node.
func (b *both) has(node int) bool { return node >= 0 && node < len(b.nodes) }

// isLeaf tells whether a node is the parent of none.
func (b *both) isLeaf(node int) bool {
	for i := 1; i < len(b.nodes); i++ {
		if b.nodes[i].Parent == node {
			return false
		}
	}
	return true
}

// packets returns how many packets wait.
func (b *both) packets() int {
	n := 0
	for i, l := range b.waits {
		if b.isLeaf(i) {
			n += len(l)
		}
	}
	return n
}

// check tells whether the tree is what it should be.
func (b *both) check() {
	b.t.Helper()
	if n := b.tree.Len(); n != b.packets() {
		b.t.Fatalf("Len is %d, not %d", n, b.packets())
	}
	if n := b.tree.Held(); n != len(b.held) {
		b.t.Fatalf("Held is %d, not %d", n, len(b.held))
	}
	if now := b.tree.Now(); now != b.now {
		b.t.Fatalf("Now is %d, not %d", now, b.now)
	}
	for i := -2; i < len(b.nodes)+3; i++ {
		n := 0
		if b.has(i) {
			n = len(b.waits[i])
		}
		if got := b.tree.Waits(i); got != n {
			b.t.Fatalf("Waits(%d) is %d, not %d", i, got, n)
		}
	}
	for i := range b.nodes {
		if v := b.tree.nodes[i]; v.virtual != b.virtual[i] || v.tag != b.tag[i] {
			b.t.Fatalf("node %d has virtual time %d and tag %d, not %d and %d", i, v.virtual, v.tag, b.virtual[i], b.tag[i])
		}
	}
}

// plus returns a + b * c, capped.
func plus(a, b, c uint64) uint64 {
	x := new(big.Int).SetUint64(b)
	x.Mul(x, new(big.Int).SetUint64(c))
	x.Add(x, new(big.Int).SetUint64(a))
	if !x.IsUint64() {
		return most
	}
	return x.Uint64()
}

// lay lets an element wait in a node.
func (b *both) lay(node int, e element) {
	l := b.waits[node]
	i := 0
	for i < len(l) && l[i].rank <= e.rank {
		i++
	}
	b.waits[node] = slices.Insert(l, i, e)
}

// enter lets a node come into its parent, for a packet of n bytes.
func (b *both) enter(node int, n uint64) {
	parent := b.nodes[node].Parent
	e := element{child: node}
	switch b.nodes[parent].Kind {
	case 2:
		e.rank = b.nodes[node].Weight
	case 3:
		e.rank = max(b.virtual[parent], b.tag[node])
		b.tag[node] = plus(e.rank, b.nodes[node].Weight, n)
	}
	b.lay(parent, e)
}

// came passes on what a packet of n bytes that came into a node leads to.
func (b *both) came(node int, n, at uint64) {
	for node != 0 {
		gap := b.nodes[node].Gap
		if gap == 0 {
			b.enter(node, n)
			node = b.nodes[node].Parent
			continue
		}
		comes := max(at, b.free[node])
		b.free[node] = plus(comes, gap, n)
		i := 0
		for i < len(b.held) && b.held[i].at <= comes {
			i++
		}
		b.held = slices.Insert(b.held, i, hold{comes, node, n})
		return
	}
}

// goOn lets time go on.
func (b *both) goOn(now uint64) {
	b.now = max(b.now, now)
	for len(b.held) > 0 && b.held[0].at <= b.now {
		h := b.held[0]
		b.held = b.held[1:]
		b.enter(h.node, h.bytes)
		b.came(b.nodes[h.node].Parent, h.bytes, h.at)
	}
}

// push pushes a packet to both, and returns the error.
func (b *both) push(now uint64, leaf int, p api.Packet) api.Errno {
	b.t.Helper()
	b.goOn(now)
	want := api.OK
	switch {
	case !b.has(leaf):
		want = api.ErrNone
	case !b.isLeaf(leaf):
		want = api.ErrArg
	case p.Len == 0 || p.Len > 65535:
		want = api.ErrLen
	case b.packets() == b.room:
		want = api.ErrFull
	default:
		ranks := []uint64{0, 0, p.Len, uint64(p.Flow)}
		b.lay(leaf, element{rank: ranks[b.nodes[leaf].Kind], packet: p})
		b.came(leaf, p.Len, b.now)
		b.goOn(b.now)
	}
	if err := b.tree.Push(now, leaf, p); err != want {
		b.t.Fatalf("Push(%d, %d, %v) is %d, not %d", now, leaf, p, err, want)
	}
	b.check()
	return want
}

// leave does what Pop should.
func (b *both) leave(now uint64) (api.Packet, api.Errno) {
	b.goOn(now)
	if b.packets() == 0 {
		return api.Packet{}, api.ErrEmpty
	}
	if len(b.waits[0]) == 0 {
		return api.Packet{}, api.ErrNotYet
	}
	node := 0
	for {
		first := b.waits[node][0]
		b.waits[node] = b.waits[node][1:]
		if b.isLeaf(node) {
			return first.packet, api.OK
		}
		if b.nodes[node].Kind == 3 {
			b.virtual[node] = first.rank
		}
		node = first.child
	}
}

// pop pops from both, and returns what left, or the error.
func (b *both) pop(now uint64) (api.Packet, api.Errno) {
	b.t.Helper()
	want, wrong := b.leave(now)
	p, err := b.tree.Pop(now)
	if p != want || err != wrong {
		b.t.Fatalf("Pop(%d) is %v, %d, not %v, %d", now, p, err, want, wrong)
	}
	b.check()
	return p, err
}

// popAll pops all that can leave.
func (b *both) popAll(now uint64) []api.Packet {
	b.t.Helper()
	var l []api.Packet
	for {
		p, err := b.pop(now)
		if err != api.OK {
			return l
		}
		l = append(l, p)
	}
}

// random returns a function whose result is less than n.
func random(seed uint64) func(n uint64) uint64 {
	return func(n uint64) uint64 {
		seed = seed*6364136223846793005 + 1442695040888963407
		return (seed>>32 ^ seed<<32) % n
	}
}

// one returns one of some values.
func one[T any](next func(n uint64) uint64, l ...T) T {
	return l[next(uint64(len(l)))]
}

// randomNodes returns n nodes whose Weights and Gaps are some of these.
func randomNodes(next func(n uint64) uint64, n int, weights, gaps []uint64) []api.Node {
	nodes := make([]api.Node, n)
	deep := next(4)
	for i := range nodes {
		parent := 0
		switch {
		case i == 0:
		case deep == 0:
			parent = i - 1
		case deep == 1:
			parent = i / 2
			if parent == i {
				parent = 0
			}
		default:
			parent = int(next(uint64(i)))
		}
		nodes[i] = api.Node{Parent: parent, Kind: 1 + int(next(3)), Weight: one(next, weights...), Gap: one(next, gaps...)}
	}
	return nodes
}

// 30.1 to 30.4: all short lists of calls, in trees with all kinds of nodes.
func TestAllCalls(t *testing.T) {
	trees := [][]api.Node{
		{{Kind: First}},
		{{Kind: Fair, Gap: 5}, {Kind: Least, Gap: 1, Weight: 2}, {Kind: Fair, Weight: 1}},
		{{Kind: Least}, {Kind: First, Gap: 1, Weight: 2}, {Kind: First, Weight: 1}},
		{{Kind: First}, {Kind: Fair, Gap: 2}, {Kind: First, Parent: 1, Gap: 1, Weight: 1}, {Kind: Least, Parent: 1, Weight: 2}},
		{{Kind: Fair}, {Kind: First, Weight: 1, Gap: 1}, {Kind: Fair, Weight: 3}, {Kind: First, Parent: 2, Gap: 2, Weight: most}},
	}
	const kinds = 7
	for _, nodes := range trees {
		for n := range 6 {
			count := int(math.Pow(kinds, float64(n)))
			for k := range count {
				b := newBoth(t, 4, nodes...)
				for i := range n {
					last := len(nodes) - 1
					p := api.Packet{Flow: uint32(9 - i), ID: uint32(i), Len: uint64(1 + (i+k)%2)}
					switch k % kinds {
					case 0:
						b.pop(0)
					case 1:
						b.pop(b.now + 1)
					case 2:
						b.push(0, last, p)
					case 3:
						b.push(b.now+1, last, p)
					case 4:
						b.push(0, last-1, p)
					case 5:
						b.push(b.now+2, max(0, last-2), p)
					case 6:
						b.push(b.now+3, -1, p)
					}
					k /= kinds
				}
				b.popAll(most)
			}
		}
	}
}

// 30.1 to 30.4: long rows of calls, in trees of all shapes and kinds, against
// the definitions.
func TestMany(t *testing.T) {
	all := [][]uint64{
		{0, 1, 2, 3},
		{0, 0, 0, 1, 5, 100},
		{0, 1, 1 << 32, 1 << 48, 1<<48 + 1},
		{0, 1, 1 << 60, most / 65535, most/65535 + 1, most - 1, most},
	}
	for seed := range uint64(400) {
		next := random(seed)
		nodes := randomNodes(next, 1+int(next(32)), one(next, all...), one(next, all[seed%4], []uint64{0}))
		b := newBoth(t, int(one(next, 1, 2, 10, 100)), nodes...)
		scale := one[uint64](next, 1, 3, 8, 20, 55)
		for i := range 300 {
			now := b.now
			switch next(6) {
			case 0:
				now += next(4)
			case 1:
				now += next(1 << next(scale))
			case 2:
				now -= min(now, next(3))
			case 3:
				if len(b.held) > 0 {
					now = b.held[0].at - next(2)
				}
			}
			leaf := int(next(uint64(len(nodes))))
			for !b.isLeaf(leaf) && next(20) > 0 {
				leaf = int(next(uint64(len(nodes))))
			}
			if next(50) == 0 {
				leaf = one(next, -1, len(nodes), math.MinInt, math.MaxInt)
			}
			p := api.Packet{Flow: uint32(next(1 << next(33))), ID: uint32(i), Len: one(next, 1, 2, 100, 65535, 1+next(65535))}
			if next(50) == 0 {
				p.Len = one[uint64](next, 0, 65536, most)
			}
			if next(9) < 4+uint64(i/60%2*2) {
				b.push(now, leaf, p)
			} else {
				b.pop(now)
			}
		}
		b.popAll(b.now)
		b.popAll(most)
		if _, err := b.pop(0); err != api.ErrEmpty {
			t.Errorf("Pop of a tree in which nothing waits is %d", err)
		}
	}
}
