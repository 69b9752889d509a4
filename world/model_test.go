package world

import (
	"fmt"
	"math"
	"math/big"
	"slices"
	"strings"
	"testing"

	"pacemaker/api"
	"pacemaker/conf"
	"pacemaker/script"
	"pacemaker/shaper"
)

const (
	most = api.MaxU64
	last = math.MaxUint32 // the greatest ID
)

func in(flow, id uint32, n uint64) api.Op {
	return api.Op{Kind: api.OpEnqueue, Flow: flow, ID: id, Len: n}
}

func tick(n uint64) api.Op { return api.Op{Kind: api.OpTick, Ticks: n} }

var (
	out   = api.Op{Kind: api.OpDequeue}
	stats = api.Op{Kind: api.OpStats}
)

// config is a configuration in which every limit is soon reached.
func config() api.Config {
	return api.Config{
		Rank: api.RankSTFQ, Back: api.BackHeap, Levels: 1, Queues: 2, Packets: 8, Bytes: 60, Share: 1, MTU: 10, Rate: 2, Burst: 12,
		Flows: []api.Flow{
			{ID: 1, Cost: 2, Budget: 9, Size: 100, Cap: 30},
			{ID: 2, Cost: 1, Budget: 5, Size: 20, Cap: 40},
			{ID: 7, Cap: 60},
		},
	}
}

// wide is a configuration with great numbers, in which many packets may wait.
func wide() api.Config {
	c := config()
	c.Packets, c.Bytes, c.Share, c.MTU, c.Rate, c.Burst = 4096, most>>1, 1, 65535, 300, 1<<40
	for i := range c.Flows {
		c.Flows[i] = api.Flow{ID: last - uint32(i)<<20, Cost: 1<<33 + uint64(i), Budget: 1 << 50, Size: most - uint64(i), Cap: most}
	}
	return c
}

// least has the least number of everything with which a packet may wait.
func least() api.Config {
	return api.Config{Rank: 1, Back: 1, Levels: 1, Queues: 1, Packets: 1, Bytes: 1, MTU: 1, Rate: 1, Burst: 1, Flows: []api.Flow{{Cap: 1}}}
}

// greatest has the greatest number of everything, and the most flows.
func greatest() api.Config {
	c := api.Config{Rank: 3, Back: 3, Levels: 3, Queues: 32, Packets: 4096, Bytes: most >> 16, Share: 16, MTU: 65535, Rate: most, Burst: most}
	for i := range uint32(64) {
		c.Flows = append(c.Flows, api.Flow{ID: last - i, Cost: most, Budget: most, Size: most, Cap: most})
	}
	return c
}

// backs returns c with each kind of backend, those in order first.
func backs(c api.Config) []api.Config {
	var l []api.Config
	add := func(back, levels, queues int) {
		c.Back, c.Levels, c.Queues = back, levels, queues
		l = append(l, c)
	}
	add(api.BackHeap, 1, 2)
	for levels := range 3 {
		add(api.BackCalendar, levels+1, 2)
	}
	for _, queues := range []int{1, 2, 32} {
		add(api.BackQueues, 1, queues)
	}
	return l
}

// kinds returns c with each kind of ranks and of backend.
func kinds(c api.Config) []api.Config {
	var l []api.Config
	for rank := api.RankSTFQ; rank <= api.RankSRS; rank++ {
		c.Rank = rank
		l = append(l, backs(c)...)
	}
	return l
}

// random returns a function whose result is less than n.
func random(seed uint64) func(n uint64) uint64 {
	return func(n uint64) uint64 {
		seed = seed*6364136223846793005 + 1442695040888963407
		return seed >> 33 % n
	}
}

// anyNumber returns a number of any size.
func anyNumber(next func(n uint64) uint64) uint64 {
	n := next(1<<31)<<33 ^ next(1<<31)<<16 ^ next(1<<31)
	return n >> next(64)
}

// anyOp returns an operation that has a line, most often one that is not
// refused by c.
func anyOp(c api.Config, next func(n uint64) uint64) api.Op {
	id := uint32(next(1<<31) << next(2))
	flow := c.Flows[next(uint64(len(c.Flows)))].ID
	switch next(20) {
	case 0:
		return stats
	case 1:
		return []api.Op{{Kind: api.OpJunk}, {Kind: api.OpJunk, Len: 5 + next(251)}, tick(0), tick(1 << next(40))}[next(4)]
	case 2:
		return in(id, id, 1+next(c.MTU))
	case 3:
		return in(flow, id, []uint64{0, c.MTU, c.MTU + 1, most}[next(4)])
	case 4, 5, 6, 7:
		return tick(next(4))
	case 8, 9, 10, 11:
		return out
	case 12:
		return in(flow, 3, 1)
	}
	return in(flow, id, 1+next(c.MTU))
}

// anyOps returns n such operations. More packets come than may leave, but for a
// while now and then in which none come.
func anyOps(c api.Config, seed uint64, n int) []api.Op {
	next := random(seed)
	l := make([]api.Op, n)
	for i := range l {
		l[i] = anyOp(c, next)
		if l[i].Kind == api.OpEnqueue && i/40%3 == 1 {
			l[i] = []api.Op{tick(9), out}[next(2)]
		}
	}
	return l
}

// texts are those of a configuration and of operations.
func texts(t *testing.T, c api.Config, l ...api.Op) (string, string) {
	t.Helper()
	text, err := conf.Put(c)
	if err != api.OK {
		t.Fatal(c, err)
	}
	lines, err := script.Put(l...)
	if err != api.OK {
		t.Fatal(l, err)
	}
	return text, lines
}

// lineOf is what Line should return.
func lineOf(r api.Reply) string {
	var s string
	packet := fmt.Sprint(" ", r.Packet.Flow, " ", r.Packet.ID, " ", r.Packet.Len)
	rank := fmt.Sprint(" at ", r.Rank)
	if r.Code != api.OK {
		n := big.NewInt(int64(r.Code))
		if r.Code < 0 {
			n.Add(n, new(big.Int).Lsh(big.NewInt(1), 64))
		}
		rank = " no " + n.String()
	}
	switch r.Kind {
	case api.OpEnqueue:
		return "in" + packet + rank
	case api.OpDequeue:
		if r.Code != api.OK {
			return "out" + rank
		}
		return "out" + packet + rank
	case api.OpTick:
		s = "tick"
	case api.OpStats:
		s = "stats"
	case api.OpJunk:
		s = "junk"
	case api.OpTorn:
		s = "torn"
	default:
		return ""
	}
	if r.Code != api.OK {
		return s + rank
	}
	if r.Kind == api.OpStats {
		s += fmt.Sprint(" ", r.Stats.Now, " ", r.Stats.Tokens, " ", max(0, r.Stats.Packets), " ", r.Stats.Bytes)
		for i, n := range r.Stats.Refused {
			if n != 0 {
				s += fmt.Sprint(" ", i, " ", n)
			}
		}
	}
	return s
}

// bucketOf is the least and the greatest number of the bucket of n, of which
// the first one bit and three more are the same.
func bucketOf(n uint64) (uint64, uint64) {
	shift := 0
	for n>>shift > 15 {
		shift++
	}
	low := n >> shift << shift
	return low, low + 1<<shift - 1
}

// reported is what Run should return for a configuration and operations.
func reported(t *testing.T, c api.Config, l []api.Op) string {
	t.Helper()
	s, err := shaper.New(c)
	if err != api.OK {
		t.Fatal(c, err)
	}
	var b strings.Builder
	var now uint64
	var waits []uint64
	admitted, left, bytes := map[uint32]int{}, map[uint32]int{}, map[uint32]uint64{}
	since := map[api.Packet][]uint64{}
	for _, x := range l {
		r := s.Do(x)
		b.WriteString(lineOf(r) + "\n")
		switch {
		case x.Kind == api.OpTick:
			now += min(x.Ticks, most-now)
		case r.Code != api.OK:
		case x.Kind == api.OpEnqueue:
			admitted[r.Packet.Flow]++
			since[r.Packet] = append(since[r.Packet], now)
		case x.Kind == api.OpDequeue:
			left[r.Packet.Flow]++
			bytes[r.Packet.Flow] += r.Packet.Len
			waits = append(waits, now-since[r.Packet][0])
			since[r.Packet] = since[r.Packet][1:]
		}
	}
	for _, f := range c.Flows {
		fmt.Fprintf(&b, "flow %d %d %d %d\n", f.ID, admitted[f.ID], left[f.ID], bytes[f.ID])
	}
	if len(waits) > 0 {
		slices.Sort(waits)
		low, high := bucketOf(waits[(len(waits)-1)/2])
		fmt.Fprintf(&b, "half %d %d\n", low, high)
	}
	return b.String()
}

func checkLine(t *testing.T, r api.Reply, want string) {
	t.Helper()
	if s := Line(r); s != want {
		t.Fatalf("Line(%v) is %q, not %q", r, s, want)
	}
}

func checkRun(t *testing.T, text, lines, want string) {
	t.Helper()
	if s := Run(text, lines); s != want {
		t.Fatalf("Run(%.300q, %.3000q) is %.3000q, not %.3000q", text, lines, s, want)
	}
}

// checkReport checks Run against the definitions.
func checkReport(t *testing.T, c api.Config, l ...api.Op) string {
	t.Helper()
	text, lines := texts(t, c, l...)
	want := reported(t, c, l)
	checkRun(t, text, lines, want)
	return want
}
