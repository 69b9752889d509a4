package tree

import (
	"math/big"
	"slices"
	"testing"

	"pacemaker/api"
)

// newTree makes a tree.
func newTree(t *testing.T, room int, nodes []api.Node) *Tree {
	t.Helper()
	tree, err := New(nodes, room)
	if err != api.OK {
		t.Fatalf("New(%v, %d) is %d", nodes, room, err)
	}
	return tree
}

// leavesOf returns the indexes of the leaves.
func leavesOf(nodes []api.Node) []int {
	var l []int
	for i := range nodes {
		if i == 0 && len(nodes) == 1 || !slices.ContainsFunc(nodes[1:], func(n api.Node) bool { return n.Parent == i }) {
			l = append(l, i)
		}
	}
	return l
}

// 30.5: each packet leaves once, all of them late enough, and those of a leaf
// of the kind First in the order in which they came.
func TestEachLeavesOnce(t *testing.T) {
	gaps := [][]uint64{{0}, {0, 1}, {0, 1, 100}, {1, 7}, {0, 1 << 50, most}}
	for seed := range uint64(200) {
		next := random(seed)
		nodes := randomNodes(next, 1+int(next(32)), []uint64{0, 1, 2, 7, most}, gaps[seed%5])
		tree := newTree(t, 1+int(next(300)), nodes)
		leaves := leavesOf(nodes)
		came, left := make([][]api.Packet, len(nodes)), make([][]api.Packet, len(nodes))
		var leafOf []int
		pop := func(now uint64) api.Errno {
			p, err := tree.Pop(now)
			if err == api.OK {
				leaf := leafOf[p.ID]
				left[leaf] = append(left[leaf], p)
			}
			return err
		}
		var now uint64
		for range 1000 {
			now += next(1 << next(12))
			leaf := one(next, leaves...)
			p := api.Packet{Flow: uint32(next(9)), ID: uint32(len(leafOf)), Len: 1 + next(1<<next(17))%65535}
			if tree.Push(now, leaf, p) == api.OK {
				came[leaf] = append(came[leaf], p)
				leafOf = append(leafOf, leaf)
			}
			if next(3) > 0 {
				pop(now + next(100))
			}
		}
		for pop(now) == api.OK {
		}
		for pop(most) == api.OK {
		}
		if tree.Len() != 0 || tree.Held() != 0 {
			t.Errorf("%d packets, %d nodes are left", tree.Len(), tree.Held())
		}
		for i, n := range nodes {
			if tree.Waits(i) != 0 {
				t.Errorf("%d elements are left in node %d", tree.Waits(i), i)
			}
			if n.Kind != First {
				byID := func(a, b api.Packet) int { return int(a.ID) - int(b.ID) }
				slices.SortFunc(left[i], byID)
			}
			if !slices.Equal(left[i], came[i]) {
				t.Errorf("leaf %d: %v left, not %v", i, left[i], came[i])
			}
		}
	}
}

// 30.2: what is pushed and popped at the same times leaves in the same order,
// whether or not the time goes on in more steps between.
func TestSteps(t *testing.T) {
	for seed := range uint64(100) {
		next := random(seed)
		nodes := randomNodes(next, 2+int(next(31)), []uint64{0, 1, 2, 7}, []uint64{0, 1, 1, 2, 3})
		a, b := newTree(t, 50, nodes), newTree(t, 50, nodes)
		leaves := leavesOf(nodes)
		var now uint64
		for i := range 500 {
			for range next(30) {
				now += next(3)
				b.Push(now, -1, api.Packet{})
			}
			if next(2) == 0 {
				leaf, p := one(next, leaves...), api.Packet{Flow: uint32(next(5)), ID: uint32(i), Len: 1 + next(4)}
				if x, y := a.Push(now, leaf, p), b.Push(now, leaf, p); x != y {
					t.Fatalf("Push is %d, and %d", x, y)
				}
				continue
			}
			p, x := a.Pop(now)
			q, y := b.Pop(now)
			if p != q || x != y {
				t.Fatalf("Pop is %v, %d, and %v, %d", p, x, q, y)
			}
		}
	}
}

// race is how far two children of a root of the kind Fair are apart: the sum of
// the weighted bytes of what left, those of the second one negative, and the
// least and the greatest sum since packets of both wait.
type race struct {
	sum, least, most *big.Int
	greatest         [2]uint64 // the greatest length of each
	running          bool
	apart            *big.Int // by how much they were apart at most
}

func newRace() *race {
	return &race{sum: new(big.Int), least: new(big.Int), most: new(big.Int), apart: new(big.Int)}
}

// weighted returns the weighted bytes of a packet of child i, 0 or 1.
func weighted(nodes []api.Node, i int, n uint64) *big.Int {
	x := new(big.Int).SetUint64(nodes[1+i].Weight)
	return x.Mul(x, new(big.Int).SetUint64(n))
}

// left counts a packet of child i.
func (r *race) left(nodes []api.Node, i int, n uint64) {
	r.greatest[i] = max(r.greatest[i], n)
	if i == 0 {
		r.sum.Add(r.sum, weighted(nodes, i, n))
	} else {
		r.sum.Sub(r.sum, weighted(nodes, i, n))
	}
}

// goOn tells whether packets of both wait now.
func (r *race) goOn(both bool) {
	if !r.running || !both {
		r.least.Set(r.sum)
		r.most.Set(r.sum)
		r.running = both
		return
	}
	if r.sum.Cmp(r.least) < 0 {
		r.least.Set(r.sum)
	}
	if r.sum.Cmp(r.most) > 0 {
		r.most.Set(r.sum)
	}
	if x := new(big.Int).Sub(r.most, r.least); x.Cmp(r.apart) > 0 {
		r.apart = x
	}
}

// check tells whether both are within 30.6's bound, and returns what part of it
// they are apart.
func (r *race) check(t *testing.T, nodes []api.Node) float64 {
	t.Helper()
	limit := weighted(nodes, 0, r.greatest[0])
	limit.Add(limit, weighted(nodes, 1, r.greatest[1]))
	if r.apart.Cmp(limit) > 0 {
		t.Errorf("%v: %v is more than %v", nodes, r.apart, limit)
	}
	if limit.Sign() == 0 {
		return 0
	}
	part, _ := new(big.Rat).SetFrac(r.apart, limit).Float64()
	return part
}

// checkRace lets packets of sizes that size tells come into the leaves and
// leave, and tells whether the nodes 1 and 2, children of the root, are within
// 30.6's bound. It returns what part of it they are apart.
func checkRace(t *testing.T, next func(n uint64) uint64, nodes []api.Node, size func(child int) uint64) float64 {
	t.Helper()
	tree := newTree(t, 60, nodes)
	leaves := leavesOf(nodes)
	// childOf returns the child of the root that a leaf is, or is below.
	childOf := func(leaf int) int {
		for nodes[leaf].Parent != 0 {
			leaf = nodes[leaf].Parent
		}
		return leaf
	}
	var child []int
	r := newRace()
	for i := range 1000 {
		if next(11) < 5+uint64(i/50%2) {
			leaf := one(next, leaves...)
			p := api.Packet{Flow: uint32(next(3)), ID: uint32(len(child)), Len: size(childOf(leaf))}
			if tree.Push(0, leaf, p) == api.OK {
				child = append(child, childOf(leaf))
			}
		} else if p, err := tree.Pop(0); err == api.OK && child[p.ID] < 3 {
			r.left(nodes, child[p.ID]-1, p.Len)
		}
		r.goOn(tree.Waits(1) > 0 && tree.Waits(2) > 0)
	}
	return r.check(t, nodes)
}

// 30.6, for leaves and classes of leaves of the kind First, from which packets
// leave in the order in which they came.
func TestFairBound(t *testing.T) {
	trees := [][]api.Node{
		{{Kind: Fair}, {Kind: First}, {Kind: First}},
		{{Kind: Fair}, {Kind: First}, {Kind: First}, {Kind: First, Weight: 3}},
		{{Kind: Fair}, {Kind: First}, {Kind: First}, {Kind: First, Parent: 2}, {Kind: First, Parent: 2}},
		{{Kind: Fair}, {Kind: First}, {Kind: First}, {Kind: First, Parent: 1}, {Kind: First, Parent: 3}, {Kind: Least, Weight: 1}},
	}
	weights := []uint64{0, 1, 2, 3, 7, 100, 1 << 32}
	var part float64
	for i, nodes := range trees {
		for _, v := range weights {
			for _, w := range weights {
				next := random(uint64(i))
				nodes[1].Weight, nodes[2].Weight = v, w
				part = max(part, checkRace(t, next, nodes, func(child int) uint64 { return 1 + next(65535) }))
				part = max(part, checkRace(t, next, nodes, func(child int) uint64 { return one[uint64](next, 1, 65535) }))
				checkRace(t, next, nodes, func(child int) uint64 { return uint64(child * child) })
			}
		}
	}
	if part < 0.9 {
		t.Errorf("two children are apart by only %f of the bound", part)
	}
}

// 30.6, for nodes of any kind: the packets of each child are equally long, so
// that it doesn't matter which one leaves first.
func TestFairBoundOfKinds(t *testing.T) {
	for first := First; first <= Fair; first++ {
		for second := First; second <= Fair; second++ {
			for below := First; below <= Fair; below++ {
				nodes := []api.Node{
					{Kind: Fair}, {Kind: first, Weight: 2}, {Kind: second, Weight: 3}, {Kind: Least, Weight: 1},
					{Kind: below, Parent: 1, Weight: 5}, {Kind: first, Parent: 1, Weight: 1},
				}
				next := random(uint64(below))
				sizes := []uint64{0, 70, 1 + next(1000), 65535}
				checkRace(t, next, nodes, func(child int) uint64 { return sizes[child] })
			}
		}
	}
}

// checkGap lets packets come into a leaf with a Gap, and as early as they can
// leave, and tells whether the k-th one leaves when 30.7 allows it or later.
// pushes are times and lengths, in the order of the times.
func checkGap(t *testing.T, nodes []api.Node, leaf int, pushes []hold) {
	t.Helper()
	tree := newTree(t, max(1, len(pushes)), nodes)
	earliest := pushes[0].at
	var bounds []uint64
	for _, p := range pushes {
		bounds = append(bounds, earliest)
		earliest = plus(earliest, nodes[leaf].Gap, p.bytes)
	}
	k := 0
	pop := func(now uint64) api.Errno {
		p, err := tree.Pop(now)
		if err == api.OK {
			if tree.Now() < bounds[k] {
				t.Errorf("%v: packet %d leaves at %d, before %d", nodes, p.ID, tree.Now(), bounds[k])
			}
			if nodes[leaf].Kind == First && p.ID != uint32(k) {
				t.Errorf("packet %d leaves as number %d", p.ID, k)
			}
			k++
		}
		return err
	}
	for i, p := range pushes {
		if err := tree.Push(p.at, leaf, packet(uint32(i), p.bytes)); err != api.OK {
			t.Fatalf("Push is %d", err)
		}
		for pop(p.at) == api.OK {
		}
	}
	for _, at := range bounds {
		if at > 0 {
			pop(at - 1)
		}
		for pop(at) == api.OK {
		}
	}
	for pop(most) == api.OK {
	}
	if k != len(pushes) {
		t.Errorf("%d of %d packets left", k, len(pushes))
	}
}

// 30.7: the k-th packet that leaves a leaf does so late enough after the first
// one came, for the bytes of those that came before the k-th one.
func TestGapBound(t *testing.T) {
	for seed := range uint64(300) {
		next := random(seed)
		gap := one[uint64](next, 1, 2, 3, 100, 1<<20, 1<<55, most)
		// The last node is the leaf.
		nodes := one(next,
			[]api.Node{{Kind: First}, {Gap: gap}},
			[]api.Node{{Kind: Fair}, {Gap: gap, Weight: 2}},
			[]api.Node{{Kind: Least}, {Kind: First, Gap: 5}, {Kind: Fair, Weight: 1}, {Parent: 2, Gap: gap, Weight: 2}},
			[]api.Node{{Kind: Fair}, {Kind: First, Gap: one(next, 0, 1, gap, gap/2)}, {Kind: Least, Parent: 1, Gap: 1}, {Parent: 2, Gap: gap, Weight: 2}})
		leaf := len(nodes) - 1
		nodes[leaf].Kind = 1 + int(next(3))
		pushes := make([]hold, 1+next(60))
		now := next(1000)
		for i := range pushes {
			pushes[i] = hold{at: now, bytes: one(next, 1, 2, 65535, 1+next(65535))}
			now += one(next, 0, 0, 0, gap%1000, next(1<<next(30)))
		}
		checkGap(t, nodes, leaf, pushes)
	}
}

// 30.7: nothing but the Gap delays a leaf below the root, so that each packet
// that came early enough leaves just when it may.
func TestGapIsJust(t *testing.T) {
	for _, gap := range []uint64{1, 2, 1000, 1 << 40} {
		tree := newTree(t, 100, []api.Node{{Kind: First}, {Kind: First, Gap: gap}})
		at := uint64(50)
		var times []uint64
		for i := range 100 {
			n := uint64(1 + i*i*i%65535)
			if err := tree.Push(50, 1, packet(uint32(i), n)); err != api.OK {
				t.Fatalf("Push is %d", err)
			}
			times = append(times, at)
			at += gap * n
		}
		for i, at := range times {
			if i > 0 {
				if _, err := tree.Pop(at - 1); err != api.ErrNotYet {
					t.Errorf("Pop is %d", err)
				}
			}
			if p, err := tree.Pop(at); p.ID != uint32(i) || err != api.OK {
				t.Errorf("Pop is %v, %d, not %d", p, err, i)
			}
		}
	}
}
