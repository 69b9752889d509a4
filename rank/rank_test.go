package rank

import (
	"math"
	"math/big"
	"slices"
	"testing"

	"pacemaker/api"
)

const (
	most = api.MaxU64
	last = math.MaxUint32 // the greatest ID
)

// kinds are all kinds that there are.
var kinds = []int{api.RankSTFQ, api.RankEDF, api.RankSRS}

// newRanks makes ranks.
func newRanks(t *testing.T, kind int, flows ...api.Flow) *Ranks {
	t.Helper()
	r, err := New(kind, flows)
	if r == nil || err != api.OK {
		t.Fatalf("New(%d, %v) is %v, %d", kind, flows, r, err)
	}
	return r
}

// count returns n flows with different IDs.
func count(n int) []api.Flow {
	var l []api.Flow
	for i := range n {
		l = append(l, api.Flow{ID: uint32(i) * 0x9E3779B1, Cost: uint64(i), Budget: uint64(2 * i), Size: uint64(3 * i)})
	}
	return l
}

// capped returns a + b * c, or the greatest number if that is less.
func capped(a, b, c uint64) uint64 {
	sum := new(big.Int).SetUint64(b)
	sum.Mul(sum, new(big.Int).SetUint64(c)).Add(sum, new(big.Int).SetUint64(a))
	if !sum.IsUint64() {
		return most
	}
	return sum.Uint64()
}

// model is what ranks should hold.
type model struct {
	kind    int
	flows   []api.Flow
	virtual uint64
	tags    []uint64
}

// next does what Next should, by the definition of the kinds.
func (m *model) next(now uint64, id uint32, n uint64) (uint64, api.Errno) {
	for i, f := range m.flows {
		if f.ID != id {
			continue
		}
		tag := m.tags[i]
		switch m.kind {
		case 1:
			rank := max(m.virtual, tag)
			m.tags[i] = capped(rank, f.Cost, n)
			return rank, api.OK
		case 2:
			return capped(now, f.Budget, 1), api.OK
		case 3:
			m.tags[i] = tag - min(tag, n)
			return tag, api.OK
		}
	}
	return 0, api.ErrFlow
}

// pair is ranks and what they should hold.
type pair struct {
	*testing.T
	r *Ranks
	m model
}

// newPair makes ranks and what they should hold.
func newPair(t *testing.T, kind int, flows ...api.Flow) *pair {
	t.Helper()
	p := &pair{t, newRanks(t, kind, flows...), model{kind: kind, flows: slices.Clone(flows)}}
	for _, f := range flows {
		if kind == 3 {
			p.m.tags = append(p.m.tags, f.Size)
		} else {
			p.m.tags = append(p.m.tags, 0)
		}
	}
	p.check()
	return p
}

// next asks both for the rank of a packet.
func (p *pair) next(now uint64, id uint32, n uint64) uint64 {
	p.Helper()
	want, e := p.m.next(now, id, n)
	got, err := p.r.Next(now, id, n)
	if got != want || err != e {
		p.Fatalf("Next(%d, %d, %d) is %d, %d, not %d, %d; then %+v", now, id, n, got, err, want, e, p.m)
	}
	p.check()
	return got
}

// sent tells both that a packet left.
func (p *pair) sent(rank uint64) {
	p.Helper()
	p.r.Sent(rank)
	if p.m.kind == 1 {
		p.m.virtual = rank
	}
	p.check()
}

// lay lays a virtual time and tags into both.
func (p *pair) lay(virtual uint64, tags ...uint64) {
	p.Helper()
	want := api.ErrArg
	if len(tags) == len(p.m.tags) {
		p.m.virtual, p.m.tags, want = virtual, slices.Clone(tags), api.OK
	}
	if err := p.r.Lay(virtual, tags); err != want {
		p.Fatalf("Lay(%d, %v) is %d, not %d", virtual, tags, err, want)
	}
	p.check()
}

// check tells whether ranks answer what they should.
func (p *pair) check() {
	p.Helper()
	if got := p.r.Virtual(); got != p.m.virtual {
		p.Fatalf("Virtual is %d in %+v", got, p.m)
	}
	if got := p.r.Tags(); !slices.Equal(got, p.m.tags) {
		p.Fatalf("Tags is %v in %+v", got, p.m)
	}
}

// 16.1: the kinds that there are, and those next to them.
func TestNewKind(t *testing.T) {
	for _, kind := range kinds {
		newPair(t, kind, api.Flow{ID: 1})
	}
	for _, kind := range []int{math.MinInt, -1, 0, 4, 5, 1 << 32, 1<<32 + 1, math.MaxInt} {
		// ErrKind comes ahead of every other error.
		for _, flows := range [][]api.Flow{count(1), count(2), nil, {}, count(api.MaxFlows + 1), make([]api.Flow, 2), make([]api.Flow, 100)} {
			if r, err := New(kind, flows); r != nil || err != api.ErrKind {
				t.Errorf("New(%d) is %v, %d with %d flows", kind, r, err, len(flows))
			}
		}
	}
}

// 16.1: how many flows there are.
func TestNewFlows(t *testing.T) {
	for _, kind := range kinds {
		for _, n := range []int{1, 2, 3, api.MaxFlows - 1, api.MaxFlows} {
			newPair(t, kind, count(n)...)
		}
		// ErrFlows comes ahead of ErrTwice.
		for _, flows := range [][]api.Flow{nil, {}, count(api.MaxFlows + 1), count(1000),
			make([]api.Flow, api.MaxFlows+1), append(count(api.MaxFlows), count(1)...)} {
			if r, err := New(kind, flows); r != nil || err != api.ErrFlows {
				t.Errorf("New(%d) is %v, %d with %d flows", kind, r, err, len(flows))
			}
		}
	}
}

// 16.1: no two flows have the same ID.
func TestNewTwice(t *testing.T) {
	for _, kind := range kinds {
		for _, n := range []int{2, 3, 10, api.MaxFlows} {
			for first := range n {
				for second := first + 1; second < n; second++ {
					flows := count(n)
					flows[second].ID = flows[first].ID
					if r, err := New(kind, flows); r != nil || err != api.ErrTwice {
						t.Errorf("New(%d) is %v, %d with %d and %d of %d the same", kind, r, err, first, second, n)
					}
				}
			}
		}
		// All else may be the same.
		same := slices.Repeat([]api.Flow{{Cost: 1, Budget: 2, Size: 3, Cap: 4}}, 3)
		same[1].ID, same[2].ID = 1, last
		newPair(t, kind, same...)
		if r, err := New(kind, make([]api.Flow, 2)); r != nil || err != api.ErrTwice {
			t.Errorf("New(%d) is %v, %d with two flows 0", kind, r, err)
		}
	}
}

// 16.1, 16.2, the chapter's example.
func TestExample(t *testing.T) {
	p := newPair(t, api.RankSTFQ, api.Flow{ID: 5, Cost: 2})
	got := []uint64{p.next(0, 5, 10), p.next(0, 5, 5)}
	p.sent(50)
	got = append(got, p.next(0, 5, 1), p.next(0, 5, 1))
	if !slices.Equal(got, []uint64{0, 20, 50, 52}) {
		t.Errorf("the ranks are %v", got)
	}
}

// step is a Sent, if there is one, a Next, its rank, and then the tags.
type step struct {
	sent *uint64
	now  uint64
	id   uint32
	n    uint64
	rank uint64
	tags []uint64
}

// 16.1, 16.2: steps worked out by hand.
func TestNext(t *testing.T) {
	sent := func(rank uint64) *uint64 { return &rank }
	flows := []api.Flow{{ID: 7, Cost: 3, Budget: 10, Size: 100}, {ID: 0, Cost: 0, Budget: 0, Size: 0},
		{ID: last, Cost: most, Budget: most, Size: most}}
	tests := map[string]struct {
		kind  int
		steps []step
	}{
		"STFQ": {api.RankSTFQ, []step{
			{nil, 99, 7, 10, 0, []uint64{30, 0, 0}},
			{nil, 0, 7, 1, 30, []uint64{33, 0, 0}},
			// A packet of 0 bytes has a rank, and leaves the tag there.
			{nil, 0, 7, 0, 33, []uint64{33, 0, 0}},
			{nil, most, 0, most, 0, []uint64{33, 0, 0}},
			{nil, 0, last, 0, 0, []uint64{33, 0, 0}},
			// The virtual time is behind a tag, equal to it, ahead of it.
			{sent(32), 0, 7, 2, 33, []uint64{39, 0, 0}},
			{sent(39), 0, 7, 2, 39, []uint64{45, 0, 0}},
			{sent(46), 0, 7, 0, 46, []uint64{46, 0, 0}},
			{nil, 0, 0, 5, 46, []uint64{46, 46, 0}},
			// A rank that is less than the virtual time counts too.
			{sent(5), 0, 7, 1, 46, []uint64{49, 46, 0}},
			{nil, 0, last, 1, 5, []uint64{49, 46, most}},
			{nil, 0, last, 1, most, []uint64{49, 46, most}},
			{sent(most), 0, 0, 1, most, []uint64{49, most, most}},
			{sent(0), 0, 7, most, 49, []uint64{most, most, most}},
			{nil, 0, 7, 0, most, []uint64{most, most, most}}}},
		"EDF": {api.RankEDF, []step{
			{nil, 0, 7, 10, 10, []uint64{0, 0, 0}},
			{nil, 90, 7, 0, 100, []uint64{0, 0, 0}},
			{sent(70), 5, 7, most, 15, []uint64{0, 0, 0}},
			{nil, 0, 0, 1, 0, []uint64{0, 0, 0}},
			{nil, most, 0, 1, most, []uint64{0, 0, 0}},
			{nil, most - 11, 7, 1, most - 1, []uint64{0, 0, 0}},
			{nil, most - 10, 7, 1, most, []uint64{0, 0, 0}},
			{nil, most - 9, 7, 1, most, []uint64{0, 0, 0}},
			{sent(most), most, 7, 1, most, []uint64{0, 0, 0}},
			{nil, 0, last, 1, most, []uint64{0, 0, 0}},
			{nil, most, last, 1, most, []uint64{0, 0, 0}}}},
		"SRS": {api.RankSRS, []step{
			{nil, 5, 7, 10, 100, []uint64{90, 0, most}},
			{sent(8), 9, 7, 0, 90, []uint64{90, 0, most}},
			{nil, 0, 7, 89, 90, []uint64{1, 0, most}},
			{nil, most, 0, 1, 0, []uint64{1, 0, most}},
			// Down to 0, and beyond.
			{nil, 0, 7, 1, 1, []uint64{0, 0, most}},
			{nil, 0, 7, 1, 0, []uint64{0, 0, most}},
			{nil, 0, 7, most, 0, []uint64{0, 0, most}},
			{nil, 0, last, 1, most, []uint64{0, 0, most - 1}},
			{sent(most), 0, last, most - 3, most - 1, []uint64{0, 0, 2}},
			{nil, 0, last, 3, 2, []uint64{0, 0, 0}},
			{nil, 0, last, 1, 0, []uint64{0, 0, 0}}}},
	}
	for name, test := range tests {
		t.Run(name, func(t *testing.T) {
			p := newPair(t, test.kind, flows...)
			for i, s := range test.steps {
				if s.sent != nil {
					p.sent(*s.sent)
				}
				if rank := p.next(s.now, s.id, s.n); rank != s.rank || !slices.Equal(p.r.Tags(), s.tags) {
					t.Fatalf("step %d: the rank is %d, the tags are %v", i, rank, p.r.Tags())
				}
			}
		})
	}
}

// 16.1: a flow that there is not changes nothing.
func TestNoSuchFlow(t *testing.T) {
	for _, kind := range kinds {
		p := newPair(t, kind, api.Flow{ID: 1, Cost: 2, Budget: 3, Size: 40}, api.Flow{ID: last - 1, Cost: 2, Budget: 3, Size: 40})
		for range 3 {
			for _, id := range []uint32{0, 2, 3, 1 << 31, last - 2, last} {
				for _, n := range []uint64{0, 1, most} {
					if rank, err := p.r.Next(n, id, n); rank != 0 || err != api.ErrFlow {
						t.Errorf("Next of flow %d is %d, %d", id, rank, err)
					}
					p.check()
				}
			}
			p.next(4, 1, 6)
			p.next(5, last-1, 7)
			p.sent(9)
		}
	}
}

// 16.1: each of many flows is found by its ID, and has its own Cost, Budget and
// Size; in the order of Tags (16.2) it is where it was given.
func TestManyFlows(t *testing.T) {
	for _, kind := range kinds {
		for _, n := range []int{1, 2, api.MaxFlows} {
			flows := count(n)
			for range 2 {
				p := newPair(t, kind, flows...)
				for k := range 3 {
					for i := range n {
						f := flows[(i*5+k)%n]
						p.next(uint64(100*k), f.ID, uint64(i%4))
					}
					p.sent(uint64(k))
				}
				slices.Reverse(flows)
			}
		}
	}
}

// 16.1: IDs differ if any bit of them does.
func TestBits(t *testing.T) {
	for _, kind := range kinds {
		flows := []api.Flow{{ID: 0, Cost: 1, Budget: 1, Size: 100}}
		for bit := range 32 {
			flows = append(flows, api.Flow{ID: 1 << bit, Cost: uint64(bit), Budget: uint64(bit), Size: uint64(bit)})
		}
		p := newPair(t, kind, flows...)
		for _, f := range flows {
			p.next(3, f.ID, 2)
			p.next(3, f.ID, 2)
			// With all bits turned round there is no such flow.
			p.next(3, ^f.ID, 2)
		}
	}
}

// 16.1: sums and products are capped, for all numbers at the ends.
func TestEnds(t *testing.T) {
	ends := []uint64{0, 1, 2, 3, 1<<32 - 1, 1 << 32, 1<<32 + 1, 1<<63 - 1, 1 << 63, most / 3, most - 1, most}
	for _, kind := range kinds {
		for _, x := range ends {
			for _, n := range ends {
				for _, now := range ends {
					p := newPair(t, kind, api.Flow{ID: 0, Cost: x, Budget: x, Size: x}, api.Flow{ID: last, Cost: n, Budget: now, Size: x})
					p.next(now, 0, n)
					p.next(now, 0, n)
					p.sent(now)
					p.next(x, 0, 1)
					p.next(now, last, x)
					p.lay(n, now, x)
					p.next(now, 0, n)
					p.next(n, last, now)
				}
			}
		}
	}
}

// 16.1: of a flow only that matters of which its kind makes ranks.
func TestKinds(t *testing.T) {
	f := api.Flow{ID: 3, Cost: 2, Budget: 20, Size: 200, Cap: 5}
	cost, budget, size, cap := f, f, f, f
	cost.Cost, budget.Budget, size.Size, cap.Cap = 9, 90, 900, 77
	ranks := func(kind int, f api.Flow) []uint64 {
		p := newPair(t, kind, f)
		return []uint64{p.next(1, 3, 6), p.next(2, 3, 6), p.next(3, 3, 6)}
	}
	for _, kind := range kinds {
		for i, other := range []api.Flow{cap, cost, budget, size} {
			// The kinds are numbered as Cost, Budget and Size follow each other.
			got, want := ranks(kind, other), ranks(kind, f)
			if slices.Equal(got, want) != (i != kind) {
				t.Errorf("of kind %d the ranks are %v with %v, %v with %v", kind, got, other, want, f)
			}
		}
	}
}

// 16.2: Sent sets the virtual time for RankSTFQ only, to any rank.
func TestSent(t *testing.T) {
	for _, kind := range kinds {
		p := newPair(t, kind, api.Flow{ID: 1, Cost: 1, Budget: 1, Size: 50})
		for _, rank := range []uint64{0, 7, 7, 3, most, most - 1, 1 << 63, 0, 2} {
			p.sent(rank)
			want := rank
			if kind != api.RankSTFQ {
				want = 0
			}
			if got := p.r.Virtual(); got != want {
				t.Errorf("of kind %d the virtual time is %d after Sent(%d)", kind, got, rank)
			}
			p.next(rank, 1, 1)
		}
		// A virtual time that was laid changes for RankSTFQ only.
		p.lay(77, 5)
		p.sent(9)
		p.next(1, 1, 1)
	}
}

// 16.2
func TestLay(t *testing.T) {
	for _, kind := range kinds {
		for _, n := range []int{1, 2, 3, api.MaxFlows} {
			p := newPair(t, kind, count(n)...)
			for turn := range 6 {
				tags := make([]uint64, n)
				for i := range tags {
					tags[i] = [3]uint64{uint64(100 - i), most - uint64(i), 0}[turn%3]
				}
				virtual := []uint64{3, most, 0}[turn%3]
				for _, wrong := range []int{0, 1, n - 1, n + 1, 2 * n, api.MaxFlows + 1, 1000} {
					if wrong == n {
						continue
					}
					l := make([]uint64, wrong)
					copy(l, tags)
					p.lay(virtual+1, l...)
				}
				p.lay(virtual, tags...)
				// What follows is as the tags and the virtual time say.
				for i, f := range count(n) {
					p.next(uint64(turn), f.ID, uint64(i%3))
				}
				p.sent(uint64(50 * turn))
				for _, f := range count(n) {
					p.next(most, f.ID, 1)
				}
			}
			if err := p.r.Lay(1, nil); err != api.ErrArg {
				t.Errorf("Lay without tags is %d", err)
			}
			p.check()
		}
	}
}

// 16.2: ranks that are laid with what others answer continue as they do.
func TestLayOfOthers(t *testing.T) {
	for _, kind := range kinds {
		a, b := newPair(t, kind, count(5)...), newPair(t, kind, count(5)...)
		seed := uint64(kind)
		for i := range 100 {
			seed = seed*6364136223846793005 + 1442695040888963407
			id := count(5)[seed>>40%5].ID
			a.next(seed>>50, id, seed>>60)
			if i%3 == 0 {
				a.sent(seed >> 58)
			}
			if i%10 == 5 {
				b.lay(a.r.Virtual(), a.r.Tags()...)
				x, y := a.next(seed>>50, id, 7), b.next(seed>>50, id, 7)
				if x != y || !slices.Equal(a.r.Tags(), b.r.Tags()) {
					t.Errorf("of kind %d the ranks are %d and %d", kind, x, y)
				}
			}
		}
	}
}

// Ownership: the flows that are given are neither kept nor changed.
func TestFlowsOwnership(t *testing.T) {
	for _, kind := range kinds {
		flows := count(4)
		p := newPair(t, kind, flows...)
		kept := slices.Clone(flows)
		for i := range flows {
			p.next(uint64(i), flows[i].ID, 3)
		}
		if !slices.Equal(flows, kept) {
			t.Errorf("the flows became %v", flows)
		}
		for i := range flows {
			flows[i] = api.Flow{ID: 1000 + uint32(i), Cost: 77, Budget: 77, Size: 77}
		}
		_ = append(flows[:2], api.Flow{ID: 5})
		for range 3 {
			for _, f := range kept {
				p.next(9, f.ID, 3)
			}
			p.next(9, 1000, 3)
			p.sent(40)
		}
	}
}

// Ownership: what Tags returned, and what Lay was given, shares nothing with
// the ranks.
func TestTagsOwnership(t *testing.T) {
	for _, kind := range kinds {
		p := newPair(t, kind, count(4)...)
		given := []uint64{5, 6, 7, 8}
		p.lay(3, given...)
		for i := range 4 {
			l, again := p.r.Tags(), p.r.Tags()
			for k := range l {
				l[k] = 1000
			}
			_ = append(l[:1], 77)
			if !slices.Equal(again, p.m.tags) {
				t.Errorf("Tags is %v after another one was changed, in %+v", again, p.m)
			}
			p.check()
			kept := slices.Clone(again)
			p.next(1, count(4)[i].ID, 2)
			p.lay(9, 1, 2, 3, uint64(i))
			if !slices.Equal(again, kept) {
				t.Errorf("Tags that were %v became %v", kept, again)
			}
		}
		if !slices.Equal(given, []uint64{5, 6, 7, 8}) {
			t.Errorf("the tags that were given became %v", given)
		}
		tags := []uint64{1, 2, 3, 4}
		p.lay(3, tags...)
		clear(tags)
		p.check()
	}
}

// 16.1, 16.2: all sequences of few turns.
func TestAllSequences(t *testing.T) {
	const turns = 5
	flows := []api.Flow{{ID: 2, Cost: 3, Budget: 2, Size: 5}, {ID: 0, Cost: 1, Budget: 5, Size: most}}
	for _, kind := range kinds {
		for k := range 32768 { // 8 to the number of turns
			p := newPair(t, kind, flows...)
			for i := range uint64(turns) {
				switch turn := k >> (3 * i) & 7; turn {
				case 0, 1:
					p.next(i, flows[turn].ID, 2)
				case 2, 3:
					p.next(turns-i, flows[turn-2].ID, most/2)
				case 4, 5, 6:
					p.sent([3]uint64{0, 4, 1 << 63}[turn-4])
				case 7:
					p.lay(2, i, 6)
				}
			}
		}
	}
}

// 16.1 to 16.4, with many turns, against the definition.
func TestMany(t *testing.T) {
	for _, kind := range kinds {
		for _, n := range []int{1, 2, 5, api.MaxFlows} {
			for _, size := range []uint64{1, 10, 1 << 20, 1 << 40, most} {
				seed := uint64(n) + size
				turn := func() uint64 {
					seed = seed*6364136223846793005 + 1442695040888963407
					return seed>>32 ^ seed<<32
				}
				flows := count(n)
				for i := range flows {
					flows[i].Cost, flows[i].Budget, flows[i].Size = turn()%size, turn()%size, turn()%size*50
				}
				checkMany(newPair(t, kind, flows...), turn, size)
			}
		}
	}
}

// checkMany does many turns with ranks: packets whose ranks should not go the
// wrong way (16.3), nor be less than the virtual time (16.4).
func checkMany(p *pair, turn func() uint64, size uint64) {
	p.Helper()
	ranks := map[uint32][]uint64{}
	var now uint64
	for range 500 {
		f := p.m.flows[turn()%uint64(len(p.m.flows))]
		rank := p.next(now, f.ID, turn()%size)
		l := ranks[f.ID]
		if len(l) > 0 && (p.m.kind == api.RankSRS && rank > l[len(l)-1] || p.m.kind != api.RankSRS && rank < l[len(l)-1]) {
			p.Fatalf("of kind %d the ranks of flow %d are %v and then %d", p.m.kind, f.ID, l, rank)
		}
		ranks[f.ID] = append(l, rank)
		if p.m.kind == api.RankSTFQ && rank < p.r.Virtual() {
			p.Fatalf("the rank %d is less than the virtual time %d", rank, p.r.Virtual())
		}
		switch turn() % 4 {
		case 0:
			p.sent(rank)
		case 1:
			p.sent(turn() % size)
		case 2:
			now += min(turn()%size, most-now)
		}
	}
}

// 16.1: times that rise and fall. Only for RankEDF they matter.
func TestTimes(t *testing.T) {
	for _, kind := range kinds {
		p, still := newPair(t, kind, count(3)...), newPair(t, kind, count(3)...)
		for i, now := range []uint64{5, 9, 9, 3, most, 0, most - 1, 1 << 63, 2, most, most, 0} {
			id := count(3)[i%3].ID
			rank, same := p.next(now, id, 4), still.next(7, id, 4)
			if kind == api.RankEDF {
				same = capped(now, uint64(i%3*2), 1)
			}
			if rank != same {
				t.Errorf("of kind %d the rank is %d, not %d, at the time %d", kind, rank, same, now)
			}
		}
	}
}

// 16.3: what is done with other flows does not matter for EDF and SRS, and for
// STFQ just as far as the virtual time follows.
func TestOtherFlows(t *testing.T) {
	for _, kind := range kinds {
		alone, among := newPair(t, kind, count(9)...), newPair(t, kind, count(9)...)
		id := count(9)[4].ID
		var before uint64
		for i := range uint64(200) {
			for k, f := range count(9) {
				if k != 4 {
					among.next(i+uint64(k), f.ID, i*i%50)
				}
			}
			a, b := alone.next(i, id, i%3), among.next(i, id, i%3)
			if a != b || i > 0 && (kind == api.RankSRS && b > before || kind != api.RankSRS && b < before) {
				t.Errorf("of kind %d the rank is %d alone, %d among others, after %d", kind, a, b, before)
			}
			before = b
			if i%7 == 0 {
				alone.sent(b + i)
				among.sent(b + i)
			}
		}
	}
}

// 16.4: with a virtual time above all tags each rank is the virtual time.
func TestAtLeastVirtual(t *testing.T) {
	p := newPair(t, api.RankSTFQ, count(api.MaxFlows)...)
	for _, virtual := range []uint64{1, 1000, 1 << 40, most - 1, most} {
		p.sent(virtual)
		for _, f := range count(api.MaxFlows) {
			if rank := p.next(0, f.ID, 1); rank != virtual {
				t.Errorf("the rank is %d with the virtual time %d", rank, virtual)
			}
			if rank := p.next(0, f.ID, 1); rank < virtual {
				t.Errorf("the rank is %d with the virtual time %d", rank, virtual)
			}
		}
	}
}

// P2: ranks know nothing of each other.
func TestTwoRanks(t *testing.T) {
	for _, kind := range kinds {
		a, b := newPair(t, kind, count(3)...), newPair(t, kind, count(4)...)
		c := newPair(t, kinds[kind%3], count(3)...)
		for i := range uint64(60) {
			id := count(3)[i%3].ID
			a.next(i, id, i%5)
			b.next(i, id, i%7)
			c.next(i, id, i%4)
			if i%4 == 0 {
				a.sent(i * 3)
			}
			if i%5 == 0 {
				b.lay(i, i, 2, 3, 4)
			}
			a.check()
			b.check()
			c.check()
		}
	}
}

// 16.2, P1: Ranks that New did not make store nothing.
func TestNotMade(t *testing.T) {
	refused, _ := New(0, count(1))
	for _, r := range []*Ranks{nil, {}, new(Ranks), refused} {
		for range 3 {
			for _, id := range []uint32{0, 1, last} {
				for _, n := range []uint64{0, 1, most} {
					if rank, err := r.Next(n, id, n); rank != 0 || err != api.ErrNil {
						t.Errorf("Next is %d, %d", rank, err)
					}
				}
			}
			r.Sent(8)
			for _, tags := range [][]uint64{nil, {}, {1}, make([]uint64, 65)} {
				if err := r.Lay(7, tags); err != api.ErrNil {
					t.Errorf("Lay is %d", err)
				}
			}
			if r.Virtual() != 0 || len(r.Tags()) != 0 {
				t.Errorf("Virtual is %d, Tags is %v", r.Virtual(), r.Tags())
			}
		}
	}
}

// P1: Ranks that are copied as a value are none that New made, but don't panic.
func TestCopied(t *testing.T) {
	a := newRanks(t, api.RankSTFQ, count(3)...)
	b := *a
	for i := range uint64(30) {
		r := a
		if i%7 < 4 {
			r = &b
		}
		r.Next(i, count(3)[i%3].ID, i)
		r.Sent(i)
		r.Lay(i, []uint64{1, 2, i % 4}[:i%4])
		r.Virtual()
		r.Tags()
	}
}
