package fair

import (
	"math"
	"math/big"
	"slices"
	"testing"

	"pacemaker/api"
)

const (
	most = api.MaxU64
	last = math.MaxUint32 // the greatest ID
)

func packet(flow, id uint32, n uint64) api.Packet {
	return api.Packet{Flow: flow, ID: id, Len: n}
}

// in is a reply that admits a packet.
func in(flow uint32, n uint64) api.Reply {
	return api.Reply{Kind: api.OpEnqueue, Packet: packet(flow, 0, n)}
}

// out is a reply that lets a packet leave.
func out(flow uint32, n uint64) api.Reply {
	return api.Reply{Kind: api.OpDequeue, Packet: packet(flow, 0, n)}
}

// ticked is a reply that does neither.
var ticked = api.Reply{Kind: api.OpTick}

// numbered returns r with a packet that has this number.
func numbered(r api.Reply, id uint32) api.Reply {
	r.Packet.ID = id
	return r
}

// tick is an operation that lets time pass.
func tick(n uint64) api.Op { return api.Op{Kind: api.OpTick, Ticks: n} }

// ticks are n operations whose ticks tell them apart, and their sums, too.
func ticks(n int) []api.Op {
	l := make([]api.Op, n)
	for i := range l {
		l[i] = tick(1 << i)
	}
	return l
}

// repeated returns a reply n times.
func repeated(n int, r api.Reply) []api.Reply {
	return slices.Repeat([]api.Reply{r}, n)
}

// random returns a function whose result is less than n.
func random(seed uint64) func(n uint64) uint64 {
	return func(n uint64) uint64 {
		seed = seed*6364136223846793005 + 1442695040888963407
		return seed >> 33 % n
	}
}

// one returns one of some values.
func one[T any](next func(n uint64) uint64, l ...T) T {
	return l[next(uint64(len(l)))]
}

func big64(x uint64) *big.Int { return new(big.Int).SetUint64(x) }

// capped returns x, or the greatest number if that is less.
func capped(x *big.Int) uint64 {
	if !x.IsUint64() {
		return most
	}
	return x.Uint64()
}

// isIn and isOut tell what a reply does, by the chapter's definitions.
func isIn(r api.Reply) bool  { return r.Kind == 1 && r.Code == 0 }
func isOut(r api.Reply) bool { return r.Kind == 2 && r.Code == 0 }

// isOf tells whether a packet is one of flow i.
func isOf(flows []api.Flow, i int, p api.Packet) bool {
	for j, f := range flows {
		if f.ID == p.Flow {
			return i == j
		}
	}
	return false
}

// rows does what Rows should, a flow at a time (27.1).
func rows(flows []api.Flow, l []api.Reply) []Row {
	var rows []Row
	for i := range flows {
		var row Row
		bytes := new(big.Int)
		for _, r := range l {
			if isOf(flows, i, r.Packet) && isIn(r) {
				row.In++
			}
			if isOf(flows, i, r.Packet) && isOut(r) {
				row.Left++
				bytes.Add(bytes, big64(r.Packet.Len))
			}
		}
		row.Bytes = capped(bytes)
		rows = append(rows, row)
	}
	return rows
}

// at returns the time of reply i.
func at(x []api.Op, i int) uint64 {
	sum := new(big.Int)
	for _, o := range x[:i] {
		if o.Kind == 3 {
			sum.Add(sum, big64(o.Ticks))
		}
	}
	return capped(sum)
}

// waits does what Waits should, with a search for each packet that left (27.2).
func waits(x []api.Op, l []api.Reply) []Wait {
	var waits []Wait
	used := make([]bool, len(l))
	for k, r := range l {
		if k >= len(x) || !isOut(r) {
			continue
		}
		for i := range k {
			if isIn(l[i]) && !used[i] && l[i].Packet == r.Packet {
				used[i] = true
				waits = append(waits, Wait{r.Packet, at(x, i), at(x, k)})
				break
			}
		}
	}
	return waits
}

// wait tells whether packets of flow i wait after reply k.
func wait(flows []api.Flow, l []api.Reply, i, k int) bool {
	row := rows(flows, l[:k+1])[i]
	return row.In > row.Left
}

// spans does what Spans should, by asking for each reply whether a range begins
// or ends there (27.3).
func spans(flows []api.Flow, l []api.Reply, f, g int) [][2]int {
	if f < 0 || g < 0 || f >= len(flows) || g >= len(flows) || f == g {
		return nil
	}
	both := make([]bool, len(l)+2) // one at each end at which they don't
	for k := range l {
		both[k+1] = wait(flows, l, f, k) && wait(flows, l, g, k)
	}
	var firsts, lasts []int
	for k := range l {
		if both[k+1] && !both[k] {
			firsts = append(firsts, k)
		}
		if both[k+1] && !both[k+2] {
			lasts = append(lasts, k)
		}
	}
	var spans [][2]int
	for i := range firsts {
		spans = append(spans, [2]int{firsts[i], lasts[i]})
	}
	return spans
}

// cost returns the cost of what left of flow i, exactly.
func cost(flows []api.Flow, l []api.Reply, i int) *big.Int {
	sum := new(big.Int)
	for _, r := range l {
		if isOf(flows, i, r.Packet) && isOut(r) {
			sum.Add(sum, big64(min(r.Packet.Len, 65535)))
		}
	}
	return sum.Mul(sum, big64(flows[i].Cost))
}

// gap does what Gap should, by trying any two replies of each span (27.3).
func gap(flows []api.Flow, l []api.Reply, f, g int) uint64 {
	greatest := new(big.Int)
	for _, s := range spans(flows, l, f, g) {
		for j := s[0]; j <= s[1]; j++ {
			for k := j + 1; k <= s[1]; k++ {
				d := new(big.Int).Sub(cost(flows, l[j+1:k+1], f), cost(flows, l[j+1:k+1], g))
				if d.CmpAbs(greatest) > 0 {
					greatest.Abs(d)
				}
			}
		}
	}
	return capped(greatest)
}

// few returns l if it is short enough to be shown.
func few[T any](l []T) []T { return l[:min(20, len(l))] }

// told returns what is to be shown of replies.
func told(l []api.Reply) [][5]uint64 {
	var all [][5]uint64
	for _, r := range few(l) {
		all = append(all, [5]uint64{uint64(r.Kind), uint64(r.Code), uint64(r.Packet.Flow), uint64(r.Packet.ID), r.Packet.Len})
	}
	return all
}

// checkRows tells whether Rows is as it should.
func checkRows(t *testing.T, flows []api.Flow, l []api.Reply, want []Row) {
	t.Helper()
	if got := Rows(flows, l); !slices.Equal(got, want) {
		t.Errorf("Rows of %v and %v is %v, not %v", flows, told(l), got, want)
	}
}

// checkWaits tells whether Waits is as it should.
func checkWaits(t *testing.T, x []api.Op, l []api.Reply, want []Wait) {
	t.Helper()
	if got := Waits(x, l); !slices.Equal(got, want) {
		t.Errorf("Waits of %v and %v is %v, not %v", few(x), told(l), few(got), few(want))
	}
}

// checkSpans tells whether Spans is as it should, with both flows exchanged,
// too.
func checkSpans(t *testing.T, flows []api.Flow, l []api.Reply, f, g int, want [][2]int) {
	t.Helper()
	for range 2 {
		if got := Spans(flows, l, f, g); !slices.Equal(got, want) {
			t.Errorf("Spans of %v and %v for %d and %d is %v, not %v", flows, told(l), f, g, few(got), few(want))
		}
		f, g = g, f
	}
}

// checkGap tells whether Gap is as it should, with both flows exchanged, too.
func checkGap(t *testing.T, flows []api.Flow, l []api.Reply, f, g int, want uint64) {
	t.Helper()
	for range 2 {
		if got := Gap(flows, l, f, g); got != want {
			t.Errorf("Gap of %v and %v for %d and %d is %d, not %d", flows, told(l), f, g, got, want)
		}
		f, g = g, f
	}
}

// checkAll tells whether all functions return what the definitions say, for any
// two indexes.
func checkAll(t *testing.T, flows []api.Flow, x []api.Op, l []api.Reply) {
	t.Helper()
	checkRows(t, flows, l, rows(flows, l))
	checkWaits(t, x, l, waits(x, l))
	for f := -1; f <= len(flows); f++ {
		for g := -1; g <= f; g++ {
			checkSpans(t, flows, l, f, g, spans(flows, l, f, g))
			checkGap(t, flows, l, f, g, gap(flows, l, f, g))
		}
	}
}

// lists calls f with all lists of at most n of some replies.
func lists(some []api.Reply, n int, f func(l []api.Reply)) {
	l := make([]api.Reply, 0, n)
	var longer func()
	longer = func() {
		f(l)
		if len(l) == n {
			return
		}
		for _, r := range some {
			l = append(l, r)
			longer()
			l = l[:len(l)-1]
		}
	}
	longer()
}

// 27.1 and 27.3: all short lists of replies of two flows.
func TestShortLists(t *testing.T) {
	flows := []api.Flow{{ID: 1, Cost: 3}, {ID: 2, Cost: 2}}
	some := []api.Reply{in(1, 5), out(1, 5), in(2, 7), out(2, 7)}
	lists(some, 8, func(l []api.Reply) {
		checkRows(t, flows, l, rows(flows, l))
		checkSpans(t, flows, l, 0, 1, spans(flows, l, 0, 1))
		checkGap(t, flows, l, 0, 1, gap(flows, l, 0, 1))
	})
}

// 27.3: all short lists of replies while packets of both flows wait, so that
// any of them can leave, with costs that reach the greatest number and without.
func TestShortListsOfLeaving(t *testing.T) {
	begin := append(repeated(9, in(1, 1)), repeated(9, in(2, 1))...)
	for _, costs := range [][2]uint64{{3, 2}, {1, 9}, {0, 5}, {1 << 62, 1 << 63}, {most / 3, most / 2}, {most, 1}, {most, most}} {
		flows := []api.Flow{{ID: 1, Cost: costs[0]}, {ID: 2, Cost: costs[1]}}
		lists([]api.Reply{out(1, 1), out(2, 1), out(2, 3)}, 6, func(l []api.Reply) {
			l = slices.Concat(begin, l)
			checkGap(t, flows, l, 0, 1, gap(flows, l, 0, 1))
		})
	}
}

// 27.2: all short lists of replies of packets of which each differs from the
// first one in one field.
func TestShortListsOfEqual(t *testing.T) {
	for _, p := range []api.Packet{packet(2, 5, 9), packet(1, 6, 9), packet(1, 5, 8)} {
		some := []api.Reply{
			{Kind: api.OpEnqueue, Packet: packet(1, 5, 9)}, {Kind: api.OpDequeue, Packet: packet(1, 5, 9)},
			{Kind: api.OpEnqueue, Packet: p}, {Kind: api.OpDequeue, Packet: p},
		}
		lists(some, 8, func(l []api.Reply) {
			checkWaits(t, ticks(8), l, waits(ticks(8), l))
		})
	}
}

// anyReply returns a reply, most often one of a packet that came or left.
func anyReply(next func(n uint64) uint64) api.Reply {
	r := api.Reply{Kind: 1 + int(next(2)), Rank: next(9)}
	r.Packet = packet(uint32(1+next(3)), uint32(next(3)), one[uint64](next, 1, 1, 1, 2, 7, 0, 65534, 65535, 65536, 1<<40, most))
	if next(12) == 0 {
		r.Kind = int(next(9)) - 2
	}
	if next(12) == 0 {
		r.Code = api.Errno(next(40)) - 3
	}
	if next(12) == 0 {
		r.Packet.Flow = one[uint32](next, 0, 9, last)
	}
	return r
}

// anyFlows returns up to six flows, of which some have the same ID.
func anyFlows(next func(n uint64) uint64) []api.Flow {
	flows := make([]api.Flow, next(7))
	for i := range flows {
		cost := one[uint64](next, 0, 1, 2, 3, next(1<<31), 1<<32, 1<<48-1, 1<<48, 1<<63, most-1, most)
		flows[i] = api.Flow{ID: uint32(1 + next(5)), Cost: cost, Budget: next(9), Size: next(9), Cap: next(9)}
	}
	return flows
}

// 27.1, 27.2 and 27.3: any replies, any operations and any flows.
func TestAny(t *testing.T) {
	next := random(27)
	for range 3000 {
		l := make([]api.Reply, next(30))
		for i := range l {
			l[i] = anyReply(next)
		}
		x := make([]api.Op, next(40))
		for i := range x {
			x[i] = api.Op{Kind: one(next, 3, 3, int(next(9))-2), Ticks: one[uint64](next, 0, 1, next(1<<31), 1<<61, 1<<63, most)}
		}
		checkAll(t, anyFlows(next), x, l)
	}
}

// 27.1, 27.2 and 27.3: lists in which as many packets leave as come, so that
// there are many spans, and long ones.
func TestAnyInBalance(t *testing.T) {
	next := random(2703)
	flows := []api.Flow{{ID: 1, Cost: 5}, {ID: 2, Cost: 3}, {ID: 3, Cost: 1 << 46}}
	for range 30 {
		var l []api.Reply
		for range 90 {
			flow, n := uint32(1+next(3)), 1+next(4)
			if next(2) == 0 || !wait(flows, append(l, ticked), int(flow-1), len(l)) {
				l = append(l, in(flow, n))
			} else {
				l = append(l, out(flow, n))
			}
		}
		x := make([]api.Op, len(l))
		for i := range x {
			x[i] = tick(next(9))
		}
		checkAll(t, flows, x, l)
	}
}
