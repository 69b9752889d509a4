package fair

import (
	"strconv"
	"testing"

	"pacemaker/api"
	"pacemaker/sat"
	"pacemaker/shaper"
)

// config is a configuration with virtual start times and flows of some costs, of
// which many packets may wait.
func config(mtu uint64, costs ...uint64) api.Config {
	c := api.Config{Rank: api.RankSTFQ, Back: api.BackHeap, Levels: 1, Queues: 1, Packets: 4096, Bytes: 1 << 40, Share: 16, MTU: mtu, Rate: mtu, Burst: 5 * mtu}
	for i, cost := range costs {
		c.Flows = append(c.Flows, api.Flow{ID: uint32(i + 1), Cost: cost, Budget: 7, Size: 1000, Cap: 60 * mtu})
	}
	return c
}

// backs returns c with a heap, and with calendars.
func backs(c api.Config) []api.Config {
	l := []api.Config{c}
	for levels := range api.MaxLevels {
		c.Back, c.Levels = api.BackCalendar, levels+1
		l = append(l, c)
	}
	return l
}

// replies returns those of a new shaper.
func replies(t *testing.T, c api.Config, x []api.Op) []api.Reply {
	t.Helper()
	s, err := shaper.New(c)
	if err != api.OK {
		t.Fatalf("New(%v) is %d", c, err)
	}
	return s.Run(x)
}

// greatest returns for each flow the greatest cost of a packet that came. Rank
// and cost of all packets stay below 2^64 together, or else 27.4 says nothing.
func greatest(t *testing.T, c api.Config, l []api.Reply) []uint64 {
	t.Helper()
	costs := make([]uint64, len(c.Flows))
	for _, r := range l {
		if !isIn(r) {
			continue
		}
		i := r.Packet.Flow - 1
		cost := sat.Mul(c.Flows[i].Cost, r.Packet.Len)
		if sat.Add(r.Rank, cost) == most {
			t.Fatalf("rank and cost of %v are too great", r)
		}
		costs[i] = max(costs[i], cost)
	}
	return costs
}

// checkFair tells whether the gap of any two flows is as small as 27.4 says, by
// the longest packets that came. It returns for how many replies any two flows
// waited together, and the greatest part of what is allowed that a gap was, in
// hundredths.
func checkFair(t *testing.T, c api.Config, l []api.Reply) (waited, part uint64) {
	t.Helper()
	costs := greatest(t, c, l)
	for f := range c.Flows {
		for g := range f {
			bound := sat.Add(costs[f], costs[g])
			n := Gap(c.Flows, l, f, g)
			if n > bound {
				t.Fatalf("the gap of %v and %v is %d, and not at most %d", c.Flows[f], c.Flows[g], n, bound)
			}
			for _, s := range Spans(c.Flows, l, f, g) {
				waited += uint64(s[1] - s[0])
			}
			part = max(part, sat.MulDiv(n, 100, max(bound, 1)))
		}
	}
	return waited, part
}

// habits are how packets come: how many operations of 20 are packets, how many
// let one leave, and for how long a flow is silent now and then.
type habits struct{ come, leave, silent uint64 }

// anyOps returns n operations.
func anyOps(c api.Config, h habits, seed uint64, n int) []api.Op {
	next := random(seed)
	l := make([]api.Op, n)
	for i := range l {
		j := next(uint64(len(c.Flows)))
		f := c.Flows[j]
		come := next(20)
		switch {
		case come < h.come && (h.silent == 0 || (uint64(i)/h.silent+j)%3 > 0):
			l[i] = api.Op{Kind: api.OpEnqueue, Flow: f.ID, ID: uint32(i), Len: one(next, 1, 1+next(c.MTU), c.MTU, c.MTU)}
		case come < h.come+h.leave:
			l[i] = api.Op{Kind: api.OpDequeue}
		case next(9) == 0:
			l[i] = api.Op{Kind: []int{0, 4, 5, 6}[next(4)]}
		default:
			l[i] = tick(1 + next(3))
		}
	}
	return l
}

// 27.4: long lists of operations, with heaps and calendars: the gap is at most
// the sum of the costs of the longest packets of both flows.
func TestFair(t *testing.T) {
	costs := [][]uint64{{1, 1}, {1, 2}, {0, 5}, {1, 1000}, {3, 5, 7, 2}, {1 << 20, 1, 1<<20 + 1}, {1, 1, 1, 1, 1, 1, 1, 1}}
	for i, some := range costs {
		var closest uint64
		for j, mtu := range []uint64{1, 10, 1500, 65535} {
			for k, h := range []habits{{12, 7, 0}, {9, 8, 150}, {8, 9, 700}} {
				c := config(mtu, some...)
				x := anyOps(c, h, uint64(100*i+10*j+k), 6000)
				for _, c := range backs(c) {
					waited, part := checkFair(t, c, replies(t, c, x))
					if waited < 1000 {
						t.Errorf("two flows wait together for %d replies only", waited)
					}
					closest = max(closest, part)
				}
			}
		}
		// It holds by a hair: it is not that nothing ever leaves.
		if closest < 95 {
			t.Errorf("with costs %v, gaps are only %d hundredths of what they may be", some, closest)
		}
	}
}

// 27.4: as many flows as there may be.
func TestFairManyFlows(t *testing.T) {
	var costs []uint64
	for i := range uint64(api.MaxFlows) {
		costs = append(costs, 1+i*i%17)
	}
	c := config(100, costs...)
	x := anyOps(c, habits{12, 7, 0}, 64, 3000)
	for _, c := range backs(c)[:2] {
		checkFair(t, c, replies(t, c, x))
	}
}

// 27.4: ranks near the greatest number. There are so few packets that their
// costs stay below it together.
func TestFairGreatRanks(t *testing.T) {
	c := config(65535, 1<<43, 1<<43-1, 1<<42)
	var top uint64
	for seed := range uint64(200) {
		x := anyOps(c, habits{8, 8, 0}, seed, 70)
		for _, c := range backs(c)[:2] {
			l := replies(t, c, x)
			checkFair(t, c, l)
			for _, r := range l {
				top = max(top, r.Rank)
			}
		}
	}
	if top < 1<<62 {
		t.Errorf("the greatest rank was only %d", top)
	}
}

// 27.4: the gap can be just as great as it may be.
func TestFairGreatestGap(t *testing.T) {
	came := func(flow uint32) api.Op { return api.Op{Kind: api.OpEnqueue, Flow: flow, Len: 10} }
	left := api.Op{Kind: api.OpDequeue}
	for _, costs := range [][]uint64{{1, 1}, {7, 7}, {1 << 50, 1 << 50}} {
		for _, c := range backs(config(10, costs...)) {
			// Flow 2 leaves, then flow 1 twice, ahead of flow 2 with the same rank.
			l := replies(t, c, []api.Op{came(2), came(1), came(1), came(2), came(1), left, left, left, left})
			checkFair(t, c, l)
			checkGap(t, c.Flows, l, 0, 1, 20*costs[0])
		}
	}
}

// 27.4: all short lists of operations of two flows.
func TestFairShortLists(t *testing.T) {
	some := []api.Op{{Kind: api.OpEnqueue, Flow: 1, Len: 10}, {Kind: api.OpEnqueue, Flow: 1, Len: 3}, {Kind: api.OpEnqueue, Flow: 2, Len: 10}, {Kind: api.OpDequeue}}
	begin := []api.Op{some[0], some[2], some[2]}
	for _, costs := range [][]uint64{{1, 1}, {2, 3}} {
		for _, c := range backs(config(10, costs...))[:2] {
			c.Packets = 20
			for n := range 1 << 12 {
				x := append([]api.Op{}, begin...)
				for ; n > 0; n /= 4 {
					x = append(x, some[n%4])
				}
				checkFair(t, c, replies(t, c, x))
			}
		}
	}
}

// 27.1, 27.2 and 27.3: replies of a shaper give what the definitions say, and
// agree with what it says of itself.
func TestOfShaper(t *testing.T) {
	for _, back := range []int{api.BackHeap, api.BackCalendar, api.BackQueues} {
		for rank := api.RankSTFQ; rank <= api.RankSRS; rank++ {
			t.Run(strconv.Itoa(back)+" "+strconv.Itoa(rank), func(t *testing.T) {
				c := config(20, 2, 3, 5)
				c.Back, c.Rank = back, rank
				x := append(anyOps(c, habits{9, 8, 20}, uint64(back*10+rank), 120), api.Op{Kind: api.OpStats})
				l := replies(t, c, x)
				checkAll(t, c.Flows, x, l)
				wait := 0
				for _, row := range Rows(c.Flows, l) {
					wait += row.In - row.Left
				}
				if stats := l[120].Stats; wait != stats.Packets {
					t.Errorf("%d packets wait, not %d", wait, stats.Packets)
				}
			})
		}
	}
}
