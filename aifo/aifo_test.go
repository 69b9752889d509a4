package aifo

import (
	"math"
	"math/big"
	"slices"
	"testing"

	"pacemaker/api"
)

// newGate makes a gate.
func newGate(t *testing.T, room, window int, num, den uint64) *Gate {
	t.Helper()
	g, err := New(room, window, num, den)
	if g == nil || err != api.OK {
		t.Fatalf("New(%d, %d, %d, %d) is %v, %d", room, window, num, den, g, err)
	}
	return g
}

// model is what a gate should hold.
type model struct {
	room, window int
	num, den     uint64
	wait         int
	ranks        []uint64 // the oldest one first
}

// product returns the exact product.
func product(factors ...uint64) *big.Int {
	p := big.NewInt(1)
	for _, x := range factors {
		p.Mul(p, new(big.Int).SetUint64(x))
	}
	return p
}

// may does what May should, by a plain count over the definition.
func (m *model) may(rank uint64) bool {
	var below uint64
	for _, r := range m.ranks {
		if r < rank {
			below++
		}
	}
	left := product(below, m.den-m.num, uint64(m.room))
	right := product(uint64(m.room-m.wait), m.den, uint64(len(m.ranks)))
	return m.wait < m.room && left.Cmp(right) <= 0
}

// offer does what Offer should.
func (m *model) offer(rank uint64) bool {
	ok := m.may(rank)
	if ok {
		m.wait++
	}
	m.ranks = append(m.ranks, rank)
	if len(m.ranks) > m.window {
		m.ranks = m.ranks[1:]
	}
	return ok
}

// take does what Take should.
func (m *model) take() bool {
	if m.wait == 0 {
		return false
	}
	m.wait--
	return true
}

// pair is a gate and what it should hold.
type pair struct {
	*testing.T
	g *Gate
	m model
}

// newPair makes a gate and what it should hold.
func newPair(t *testing.T, room, window int, num, den uint64) *pair {
	t.Helper()
	return &pair{t, newGate(t, room, window, num, den), model{room: room, window: window, num: num, den: den}}
}

// offer offers a rank to both.
func (p *pair) offer(rank uint64) {
	p.Helper()
	if got, want := p.g.Offer(rank), p.m.offer(rank); got != want {
		p.Fatalf("Offer(%d) is %t in %+v", rank, got, p.m)
	}
}

// take takes a packet from both.
func (p *pair) take() {
	p.Helper()
	if got, want := p.g.Take(), p.m.take(); got != want {
		p.Fatalf("Take is %t in %+v", got, p.m)
	}
}

// may asks both for a rank.
func (p *pair) may(rank uint64) {
	p.Helper()
	if got, want := p.g.May(rank), p.m.may(rank); got != want {
		p.Fatalf("May(%d) is %t in %+v", rank, got, p.m)
	}
}

// check tells whether a gate answers what it should.
func (p *pair) check() {
	p.Helper()
	if got := p.g.Len(); got != p.m.wait {
		p.Fatalf("Len is %d in %+v", got, p.m)
	}
	if got := p.g.Window(); !slices.Equal(got, p.m.ranks) {
		p.Fatalf("Window is %v in %+v", got, p.m)
	}
}

// near returns ranks at both ends, and those at some ranks of the window and
// next to them.
func (p *pair) near() []uint64 {
	l := []uint64{0, 1, 1 << 32, 1 << 63, api.MaxU64 - 1, api.MaxU64}
	every := max(1, len(p.m.ranks)/3)
	for i := 0; i < len(p.m.ranks); i += every {
		// At the ends the next rank is the one at the other end.
		l = append(l, p.m.ranks[i]-1, p.m.ranks[i], p.m.ranks[i]+1)
	}
	slices.Sort(l)
	return l
}

// checkNear tells whether a gate admits what it should, and that asking it
// changes nothing; whether a rank is admitted if a greater one is (13.2); and
// whether a rank that is not greater than any of the window is, if there is
// room (13.3).
func (p *pair) checkNear() {
	p.Helper()
	p.check()
	refused := false
	for _, rank := range p.near() {
		p.may(rank)
		p.may(rank)
		ok := p.g.May(rank)
		if ok && refused {
			p.Fatalf("May(%d) is true, but not for a smaller rank, in %+v", rank, p.m)
		}
		refused = refused || !ok
		if least := len(p.m.ranks) == 0 || rank <= slices.Min(p.m.ranks); least && ok != (p.m.wait < p.m.room) {
			p.Fatalf("May(%d) is %t for a least rank in %+v", rank, ok, p.m)
		}
	}
	p.check()
}

// 13.1
func TestNew(t *testing.T) {
	type caps struct{ room, window int }
	var some, none []caps
	for _, room := range []int{1, 2, 1000, api.MaxPackets - 1, api.MaxPackets} {
		for _, window := range []int{1, 2, 1000, MaxWindow - 1, MaxWindow} {
			some = append(some, caps{room, window})
		}
		for _, window := range []int{0, -1, MaxWindow + 1, 2 * MaxWindow, math.MinInt, math.MaxInt} {
			none = append(none, caps{room, window})
		}
	}
	for _, room := range []int{0, -1, api.MaxPackets + 1, 2 * api.MaxPackets, api.MaxRing, math.MinInt, math.MaxInt} {
		for _, window := range []int{1, MaxWindow, 0, -1, MaxWindow + 1} {
			none = append(none, caps{room, window})
		}
	}
	type part struct{ num, den uint64 }
	parts := []part{{0, 1}, {0, 2}, {1, 2}, {0, MaxPart - 1}, {MaxPart - 2, MaxPart - 1},
		{0, MaxPart}, {MaxPart / 2, MaxPart}, {MaxPart - 1, MaxPart}}
	wrong := []part{{0, 0}, {1, 0}, {1, 1}, {2, 1}, {2, 2}, {3, 2}, {MaxPart, MaxPart}, {MaxPart + 1, MaxPart},
		{0, MaxPart + 1}, {MaxPart, MaxPart + 1}, {0, api.MaxU64}, {1, 1 << 32}, {1, 1<<32 + 2}, {1, 1 << 63},
		{api.MaxU64, 1}, {1 << 32, 2}, {api.MaxU64, api.MaxU64}, {api.MaxU64 - 1, api.MaxU64}}
	check := func(c caps, p part, want api.Errno) {
		t.Helper()
		g, err := New(c.room, c.window, p.num, p.den)
		if err != want || (g == nil) != (want != api.OK) {
			t.Errorf("New(%d, %d, %d, %d) is %v, %d, not %d", c.room, c.window, p.num, p.den, g, err, want)
		}
	}
	for _, c := range some {
		for _, p := range parts {
			check(c, p, api.OK)
		}
		for _, p := range wrong {
			check(c, p, api.ErrArg)
		}
	}
	// ErrCaps comes ahead of ErrArg.
	for _, c := range none {
		for _, p := range slices.Concat(parts, wrong) {
			check(c, p, api.ErrCaps)
		}
	}
}

// 13.1: a new gate has an empty queue and an empty window, and admits any rank.
func TestEmpty(t *testing.T) {
	for _, room := range []int{1, 2, api.MaxPackets} {
		for _, window := range []int{1, 2, MaxWindow} {
			p := newPair(t, room, window, 0, 1)
			p.checkNear()
			for _, rank := range p.near() {
				if !p.g.May(rank) {
					t.Errorf("May(%d) is false for a new gate", rank)
				}
			}
			p.take()
			p.checkNear()
		}
	}
}

// MaxWindow and MaxPart are the document's.
func TestLimits(t *testing.T) {
	if MaxWindow != 1024 || MaxPart != 65536 {
		t.Errorf("MaxWindow is %d, MaxPart is %d", MaxWindow, MaxPart)
	}
}

// step is an Offer, its answer, and then the window and how many wait.
type step struct {
	rank   uint64
	ok     bool
	window []uint64
	wait   int
}

// checkSteps offers ranks one after another. Before a step of which the wait is
// less than it would be, as many packets are taken.
func checkSteps(t *testing.T, g *Gate, steps []step) {
	t.Helper()
	for i, s := range steps {
		before := s.wait
		if s.ok {
			before--
		}
		for g.Len() > before {
			if !g.Take() {
				t.Fatalf("step %d: Take is false", i)
			}
		}
		if may, ok := g.May(s.rank), g.Offer(s.rank); may != s.ok || ok != s.ok {
			t.Fatalf("step %d: May(%d) is %t, Offer is %t", i, s.rank, may, ok)
		}
		if l := g.Window(); !slices.Equal(l, s.window) || g.Len() != s.wait {
			t.Fatalf("step %d: Window is %v, Len is %d", i, l, g.Len())
		}
	}
}

// 13.1, the chapter's example.
func TestExample(t *testing.T) {
	checkSteps(t, newGate(t, 4, 4, 0, 1), []step{
		{5, true, []uint64{5}, 1},
		{5, true, []uint64{5, 5}, 2},
		{5, true, []uint64{5, 5, 5}, 3},
		{5, true, []uint64{5, 5, 5, 5}, 4},
		{6, false, []uint64{5, 5, 5, 6}, 3},
	})
	g := newGate(t, 4, 4, 0, 1)
	for range 4 {
		g.Offer(5)
	}
	if !g.Take() || g.May(6) || !g.May(5) {
		t.Error("of the ranks 5 and 6 not just 5 is admitted")
	}
}

// 13.1: steps worked out by hand.
func TestOffer(t *testing.T) {
	const most = api.MaxU64
	tests := map[string]struct {
		room, window int
		num, den     uint64
		steps        []step
	}{
		"one and one": {1, 1, 0, 1, []step{
			{7, true, []uint64{7}, 1}, {0, false, []uint64{0}, 1},
			// 1 of 1 rank is less: the empty queue is just enough.
			{9, true, []uint64{9}, 1}, {9, false, []uint64{9}, 1}}},
		"ends": {4, 2, 0, 1, []step{
			{0, true, []uint64{0}, 1}, {most, false, []uint64{0, most}, 1},
			{most, true, []uint64{most, most}, 2}, {0, true, []uint64{most, 0}, 3},
			{1, false, []uint64{0, 1}, 3}, {0, true, []uint64{1, 0}, 4}, {0, false, []uint64{0, 0}, 4}}},
		"what is refused comes into the window": {2, 3, 0, 1, []step{
			{5, true, []uint64{5}, 1}, {6, false, []uint64{5, 6}, 1}, {7, false, []uint64{5, 6, 7}, 1},
			// Of 5, 6, 7 one is less than 6: 1 * 2 <= 1 * 3.
			{6, true, []uint64{6, 7, 6}, 2}, {0, false, []uint64{7, 6, 0}, 2}}},
		"equal among others": {8, 4, 0, 1, []step{
			{5, true, []uint64{5}, 1}, {5, true, []uint64{5, 5}, 2}, {4, true, []uint64{5, 5, 4}, 3},
			// 1 of 3: 1 * 8 <= 5 * 3. Then 1 of 4: 8 <= 16, and 3 of 4: 24 > 12.
			{5, true, []uint64{5, 5, 4, 5}, 4}, {5, true, []uint64{5, 4, 5, 5}, 5},
			{6, false, []uint64{4, 5, 5, 6}, 5}, {5, true, []uint64{5, 5, 6, 5}, 6},
			{6, false, []uint64{5, 6, 5, 6}, 6}, {5, true, []uint64{6, 5, 6, 5}, 7}}},
		"a half for all": {4, 2, 1, 2, []step{
			{1, true, []uint64{1}, 1}, {9, true, []uint64{1, 9}, 2}, {most, true, []uint64{9, most}, 3},
			// One beyond the half: 1 of 2 is less than most, and 1 * 4 <= 1 * 2 * 2.
			{most, true, []uint64{most, most}, 4}, {0, false, []uint64{most, 0}, 4},
			{most, true, []uint64{0, most}, 4}, {most, true, []uint64{most, most}, 4}}},
		"a half, one beyond": {4, 2, 1, 2, []step{
			{1, true, []uint64{1}, 1}, {1, true, []uint64{1, 1}, 2}, {2, true, []uint64{1, 2}, 3},
			// 2 of 2 are less than 3: 2 * 4 > 1 * 2 * 2. With 2 that wait: 8 <= 8.
			{3, false, []uint64{2, 3}, 3}, {9, true, []uint64{3, 9}, 3}}},
	}
	for name, test := range tests {
		t.Run(name, func(t *testing.T) {
			checkSteps(t, newGate(t, test.room, test.window, test.num, test.den), test.steps)
		})
	}
}

// 13.1: of a full window the first rank leaves, whichever it is, and then no
// longer counts.
func TestFullWindow(t *testing.T) {
	for _, window := range []int{1, 2, 3, 100, MaxWindow - 1, MaxWindow} {
		for _, ranks := range []uint64{1, 2, 7, api.MaxU64} {
			p := newPair(t, 4, window, 0, 1)
			for i := range 2*window + 3 {
				p.offer(uint64(i) * 0x9E3779B97F4A7C15 % ranks)
				if i >= window-2 && i <= window+2 || i > 2*window {
					p.checkNear()
				}
				p.take()
			}
			if n := len(p.g.Window()); n != window {
				t.Errorf("there are %d ranks in a window for %d", n, window)
			}
		}
	}
}

// 13.1: what counts is how many ranks are less, and of those that are equal
// none is.
func TestBelow(t *testing.T) {
	// Of 8 ranks, 4 are less than 5, and 5 are less than 6, whatever their
	// order: with the fraction 0 / 1 and 2 of 4 that wait, 4 are just enough.
	for _, l := range [][]uint64{
		{1, 2, 3, 4, 5, 6, 7, 8}, {8, 7, 6, 5, 4, 3, 2, 1}, {4, 5, 3, 6, 2, 7, 1, 8},
		{0, 0, 0, 0, 5, 6, 6, api.MaxU64}, {4, 4, 4, 5, 9, 9, 9, 4}, {9, 5, 4, 9, 0, 4, 9, 0},
	} {
		g := newGate(t, 4, len(l), 0, 1)
		for _, rank := range slices.Concat([]uint64{0, 0}, l) {
			g.Offer(rank)
		}
		for g.Len() > 2 {
			g.Take()
		}
		if !slices.Equal(g.Window(), l) || !g.May(5) || !g.May(0) || g.May(6) || g.May(api.MaxU64) {
			t.Errorf("May is %t for 5, %t for 6, after %v", g.May(5), g.May(6), l)
		}
	}
}

// fill makes a gate whose window is full of zeros, and of which wait packets
// wait.
func fill(t *testing.T, room, window int, num, den uint64, wait int) *pair {
	t.Helper()
	p := newPair(t, room, window, num, den)
	for range max(window, wait) {
		p.offer(0)
	}
	for p.m.wait > wait {
		p.take()
	}
	for p.m.wait < wait {
		p.offer(0)
	}
	return p
}

// 13.3: a rank that is greater than all of the window is admitted exactly if at
// most the part of the queue is occupied.
func TestPart(t *testing.T) {
	for _, room := range []int{1, 2, 3, 4, 7, 8, 100} {
		for _, part := range [][2]uint64{{0, 1}, {0, 5}, {1, 2}, {1, 3}, {2, 3}, {3, 4}, {1, 100}, {99, 100},
			{1, MaxPart}, {MaxPart / 2, MaxPart}, {MaxPart - 1, MaxPart}} {
			for _, window := range []int{1, 2, 9} {
				for wait := range room + 1 {
					p := fill(t, room, window, part[0], part[1], wait)
					want := uint64(wait)*part[1] <= part[0]*uint64(room)
					if got := p.g.May(api.MaxU64); got != want {
						t.Fatalf("May is %t, not %t, in %+v", got, want, p.m)
					}
					p.checkNear()
				}
			}
		}
	}
}

// 13.1: a full queue admits nothing, and one from which a packet was taken does.
func TestFullQueue(t *testing.T) {
	for _, room := range []int{1, 2, 5, 1000, api.MaxPackets - 1, api.MaxPackets} {
		p := fill(t, room, 3, MaxPart-1, MaxPart, room)
		for range 5 {
			p.offer(0)
			p.checkNear()
		}
		if p.g.Len() != room || p.g.May(0) {
			t.Errorf("of %d packets %d wait, and May(0) is %t", room, p.g.Len(), p.g.May(0))
		}
		p.take()
		p.checkNear()
		if p.g.Len() != room-1 || !p.g.May(0) {
			t.Errorf("of %d packets %d wait, and May(0) is %t", room, p.g.Len(), p.g.May(0))
		}
	}
}

// 13.1: packets can be taken until none waits. The window stays.
func TestTake(t *testing.T) {
	p := newPair(t, 3, 4, 1, 2)
	p.take()
	for range 3 {
		for _, rank := range []uint64{4, 4, 2, 4, 0} {
			p.offer(rank)
		}
		for range 5 {
			p.take()
			p.checkNear()
		}
	}
	if got := p.g.Window(); !slices.Equal(got, []uint64{4, 2, 4, 0}) || p.g.Len() != 0 || p.g.Take() {
		t.Errorf("Window is %v, Len is %d", got, p.g.Len())
	}
}

// 13.1: the products are exact where room, window and fraction are greatest: a
// rank with as many smaller ones as are just allowed is admitted, and one with
// one more is not.
func TestGreatest(t *testing.T) {
	const room, window = api.MaxPackets, MaxWindow
	for _, num := range []uint64{0, 1, 2, 1000, MaxPart/2 - 1, MaxPart / 2, MaxPart - 3, MaxPart - 2, MaxPart - 1} {
		for _, wait := range []int{0, 1, 2, 3, 4, 1000, room/2 - 1, room / 2, room - 5, room - 4, room - 2, room - 1, room} {
			p := fill(t, room, window, num, MaxPart, wait)
			// A queue with room admits at least these ranks: they fall.
			for i := range window {
				p.offer(uint64(window - 1 - i))
			}
			for p.m.wait > wait {
				p.take()
			}
			p.check()
			// May(rank) counts just as many smaller ones as rank says.
			var least int
			for least <= window && p.g.May(uint64(least)) {
				least++
			}
			allowed := new(big.Int).Div(product(uint64(room-wait), MaxPart, window), product(MaxPart-num, room))
			want := int(min(allowed.Uint64(), window)) + 1
			if wait == room {
				want = 0
			}
			if least != want {
				t.Errorf("num %d, wait %d: ranks below %d are admitted, not those below %d", num, wait, least, want)
			}
			p.checkNear()
		}
	}
}

// 13.1: with each room, window and den that is greatest, or one less, the sides
// are compared where they are equal or differ least.
func TestTight(t *testing.T) {
	for _, room := range []int{1, 3, api.MaxPackets - 1, api.MaxPackets} {
		for _, window := range []int{1, 2, MaxWindow - 1, MaxWindow} {
			for _, den := range []uint64{1, 3, MaxPart - 1, MaxPart} {
				for _, num := range []uint64{0, den / 3, den / 2, den - 1} {
					wait := uint64(room) * num / den
					for _, w := range []int{int(wait), int(wait) + 1} {
						p := fill(t, room, window, num, den, min(w, room))
						p.checkNear()
						p.offer(1)
						p.checkNear()
					}
				}
			}
		}
	}
}

// 13.1: May changes nothing, however often it is asked, and neither do Len and
// Window.
func TestMay(t *testing.T) {
	asked, other := newPair(t, 5, 4, 1, 4), newPair(t, 5, 4, 1, 4)
	for i := range 200 {
		for range 3 {
			for _, rank := range []uint64{0, uint64(i) % 7, api.MaxU64} {
				asked.may(rank)
			}
			asked.check()
		}
		rank := uint64(i) * 31 % 7
		asked.offer(rank)
		other.offer(rank)
		if i%3 > 0 {
			asked.take()
			other.take()
		}
		asked.check()
		other.check()
	}
}

// Ownership: what Window returned shares nothing with the gate.
func TestWindow(t *testing.T) {
	p := newPair(t, 9, 4, 0, 1)
	for i, rank := range []uint64{3, 3, 1, 3, 2, 0, 0} {
		p.offer(rank)
		l, again := p.g.Window(), p.g.Window()
		for k := range l {
			l[k] = api.MaxU64 - uint64(i)
		}
		_ = append(l, 77)
		if !slices.Equal(again, p.m.ranks) {
			t.Errorf("Window is %v after another one was changed, in %+v", again, p.m)
		}
		p.checkNear()
		kept := slices.Clone(again)
		p.offer(5)
		p.offer(5)
		if !slices.Equal(again, kept) {
			t.Errorf("a Window that was %v became %v", kept, again)
		}
		p.take()
	}
}

// checkTurns does as the digits of k to base 4 say: a 3 is a Take, another digit
// an Offer of the rank with this index.
func checkTurns(p *pair, ranks [3]uint64, turns, k int) {
	p.Helper()
	for range turns {
		if turn := k % 4; turn < len(ranks) {
			p.offer(ranks[turn])
		} else {
			p.take()
		}
		p.check()
		k /= 4
	}
	p.checkNear()
}

// 13.1 to 13.3: all sequences of few turns with few ranks.
func TestAllSequences(t *testing.T) {
	const turns = 5
	for room := 1; room <= 3; room++ {
		for window := 1; window <= 4; window++ {
			for _, part := range [][2]uint64{{0, 1}, {1, 2}, {2, 3}} {
				for _, ranks := range [][3]uint64{{0, 1, 2}, {0, api.MaxU64, 1 << 63}} {
					for k := range 1 << (2 * turns) {
						checkTurns(newPair(t, room, window, part[0], part[1]), ranks, turns, k)
					}
				}
			}
		}
	}
}

// 13.1 to 13.3, with many turns, against a plain count over the definition.
func TestMany(t *testing.T) {
	for _, room := range []int{1, 2, 7, 64, api.MaxPackets} {
		for _, window := range []int{1, 2, 5, 64, MaxWindow} {
			for _, part := range [][2]uint64{{0, 1}, {1, 10}, {3, 4}, {MaxPart - 1, MaxPart}} {
				for _, ranks := range []uint64{1, 3, 1000, api.MaxU64} {
					p := newPair(t, room, window, part[0], part[1])
					seed := uint64(room + window)
					for i := range 400 {
						seed = seed*6364136223846793005 + 1442695040888963407
						// The queue is filled and emptied by turns.
						if seed>>40%8 < uint64(3+3*(i/(room+window)%2)) {
							p.offer((seed>>32 ^ seed<<32) % ranks)
						} else {
							p.take()
						}
						p.check()
						if i%8 == 0 {
							p.checkNear()
						}
					}
				}
			}
		}
	}
}

// 13.1 to 13.3, with a window and a queue that are full for many turns.
func TestManyFull(t *testing.T) {
	for _, ranks := range []uint64{2, 500, api.MaxU64} {
		p := fill(t, api.MaxPackets, MaxWindow, 1, MaxPart, api.MaxPackets)
		seed := ranks
		for i := range 3 * MaxWindow {
			seed = seed*6364136223846793005 + 1442695040888963407
			if i%2 == 0 {
				p.take()
			}
			p.offer((seed>>32 ^ seed<<32) % ranks)
			if i%64 == 0 {
				p.checkNear()
			}
		}
		p.checkNear()
	}
}

// P2: gates know nothing of each other.
func TestTwoGates(t *testing.T) {
	a, b := newPair(t, 2, 2, 0, 1), newPair(t, 3, 3, 1, 3)
	for i := range 50 {
		a.offer(uint64(i) * 3 % 5)
		b.offer(uint64(i) * 2 % 7)
		if i%3 == 0 {
			a.take()
		}
		if i%4 == 0 {
			b.take()
		}
		a.checkNear()
		b.checkNear()
	}
}

// 13.1, P1: gates that New did not make store nothing.
func TestNotMade(t *testing.T) {
	refused, _ := New(1, 1, 1, 1)
	for _, g := range []*Gate{nil, {}, new(Gate), refused} {
		for range 3 {
			for _, rank := range []uint64{0, 1, api.MaxU64} {
				if g.May(rank) || g.Offer(rank) {
					t.Errorf("%v admits %d", g, rank)
				}
			}
			if g.Take() || g.Len() != 0 || len(g.Window()) != 0 {
				t.Errorf("%v holds %v, and %d wait", g, g.Window(), g.Len())
			}
		}
	}
}

// P1: a gate that is copied as a value is none that New made, but doesn't
// panic.
func TestCopied(t *testing.T) {
	a := newGate(t, 2, 2, 0, 1)
	b := *a
	for i := range 30 {
		g := a
		if i%7 < 4 {
			g = &b
		}
		g.May(uint64(i % 3))
		g.Offer(uint64(i * i % 5))
		g.Window()
		if i%3 == 0 {
			g.Take()
		}
	}
}
