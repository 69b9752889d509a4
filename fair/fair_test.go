package fair

import (
	"math"
	"slices"
	"testing"

	"pacemaker/api"
)

// two are two flows, of which a byte of the second one costs twice as much.
var two = []api.Flow{{ID: 1, Cost: 1}, {ID: 2, Cost: 2}}

// 27.1: what came and left of each flow, in the order of the flows.
func TestRows(t *testing.T) {
	l := []api.Reply{in(1, 10), in(2, 20), ticked, in(1, 30), out(2, 20), out(1, 10), in(7, 1), out(7, 1), in(1, 5)}
	checkRows(t, two, l, []Row{{In: 3, Left: 1, Bytes: 10}, {In: 1, Left: 1, Bytes: 20}})
	checkRows(t, []api.Flow{{ID: 7}, {ID: 3}, {ID: 1}}, l, []Row{{In: 1, Left: 1, Bytes: 1}, {}, {In: 3, Left: 1, Bytes: 10}})
	checkRows(t, two[:1], l, []Row{{In: 3, Left: 1, Bytes: 10}})
}

// 27.1: no flows, no replies.
func TestRowsOfNothing(t *testing.T) {
	l := []api.Reply{in(1, 10), in(0, 10), out(1, 10), ticked}
	checkRows(t, nil, l, nil)
	checkRows(t, []api.Flow{}, l, nil)
	checkRows(t, nil, nil, nil)
	checkRows(t, two, nil, []Row{{}, {}})
	checkRows(t, two, []api.Reply{}, []Row{{}, {}})
}

// 27.1: a packet belongs to the first of several flows with the same ID.
func TestRowsOfSameID(t *testing.T) {
	flows := []api.Flow{{ID: 5}, {ID: 1, Cost: 1}, {ID: 1, Cost: 9}, {ID: 5, Cost: 1}, {ID: 1, Cost: 1}}
	l := []api.Reply{in(1, 3), in(5, 4), out(1, 3), in(1, 8)}
	checkRows(t, flows, l, []Row{{In: 1}, {In: 2, Left: 1, Bytes: 3}, {}, {}, {}})
}

// 27.1: packets of a flow that there is not belong to none.
func TestRowsOfNoFlow(t *testing.T) {
	l := []api.Reply{in(3, 10), out(3, 10), in(0, 1), out(0, 1), in(last, 1), out(last, 1)}
	checkRows(t, two, l, []Row{{}, {}})
	checkRows(t, []api.Flow{{ID: last}, {ID: 0}}, l, []Row{{1, 1, 1}, {1, 1, 1}})
}

// kinds are all kinds of replies, and some that there are not.
var kinds = []int{math.MinInt, -3, -1, 0, 1, 2, 3, 4, 5, 6, 7, 1 << 32, 1<<32 + 1, 1<<32 + 2, math.MaxInt}

// codes are all codes, and some that there are not.
func codes() []api.Errno {
	l := []api.Errno{math.MinInt, -1, math.MaxInt, 1 << 32, 1 << 40}
	for err := api.OK; err <= api.Errnos; err++ {
		l = append(l, err)
	}
	return l
}

// 27.1, 27.2 and 27.3: only replies with OpEnqueue or OpDequeue, and OK, count.
func TestKindsAndCodes(t *testing.T) {
	for _, kind := range kinds {
		for _, code := range codes() {
			r := api.Reply{Kind: kind, Code: code, Packet: packet(1, 0, 10), Rank: 4, Stats: api.Stats{Now: 3, Packets: 2, Bytes: 1}}
			var row Row
			var from []Wait // with the reply as what admits
			var to []Wait   // with the reply as what lets leave
			var span [][2]int
			switch {
			case code != api.OK:
			case kind == api.OpEnqueue:
				row.In = 1
				from = []Wait{{r.Packet, 1, 7}}
				span = [][2]int{{1, 1}}
			case kind == api.OpDequeue:
				row.Left, row.Bytes = 1, 10
				to = []Wait{{r.Packet, 1, 7}}
			}
			checkRows(t, two, []api.Reply{r}, []Row{row, {}})
			checkWaits(t, ticks(5), []api.Reply{ticked, r, ticked, out(1, 10), out(1, 10)}, from)
			checkWaits(t, ticks(5), []api.Reply{ticked, in(1, 10), ticked, r, r}, to)
			checkSpans(t, two, []api.Reply{in(2, 1), r, out(1, 10)}, 0, 1, span)
			checkGap(t, two, []api.Reply{in(2, 1), in(1, 1), in(1, 1), r}, 0, 1, row.Bytes)
		}
	}
}

// 27.1: bytes are the actual lengths, also of packets of 0 bytes and of more
// than 65535, and stop at the greatest number.
func TestRowsBytes(t *testing.T) {
	for _, test := range []struct {
		lens []uint64
		want uint64
	}{
		{nil, 0},
		{[]uint64{0}, 0},
		{[]uint64{0, 0, 7, 0}, 7},
		{[]uint64{65535}, 65535},
		{[]uint64{65536}, 65536},
		{[]uint64{65535, 65536, 65537}, 3 * 65536},
		{[]uint64{1 << 40, 1}, 1<<40 + 1},
		{[]uint64{most}, most},
		{[]uint64{most - 1}, most - 1},
		{[]uint64{most - 1, 1}, most},
		{[]uint64{most - 1, 2}, most},
		{[]uint64{most, 0}, most},
		{[]uint64{most, 1}, most},
		{[]uint64{1 << 63, 1<<63 - 1}, most},
		{[]uint64{1 << 63, 1 << 63, 5}, most},
		{[]uint64{most, most, most}, most},
	} {
		var l []api.Reply
		for _, n := range test.lens {
			l = append(l, out(1, n), in(1, most), out(2, 1))
		}
		n := len(test.lens)
		checkRows(t, two, l, []Row{{n, n, test.want}, {0, n, uint64(n)}})
	}
}

// 27.1: what is admitted has no bytes in the row.
func TestRowsOfWhatWaits(t *testing.T) {
	checkRows(t, two, repeated(1000, in(2, 5)), []Row{{}, {In: 1000}})
}

// 27.2: in the order in which packets left, whatever their flow.
func TestWaits(t *testing.T) {
	a, b, c := packet(1, 0, 10), packet(2, 0, 20), packet(9, 0, 30)
	l := []api.Reply{in(1, 10), in(2, 20), in(9, 30), out(9, 30), ticked, out(1, 10), out(2, 20)}
	checkWaits(t, ticks(7), l, []Wait{{c, 3, 7}, {a, 0, 31}, {b, 1, 63}})
	checkWaits(t, make([]api.Op, 7), l, []Wait{{c, 0, 0}, {a, 0, 0}, {b, 0, 0}})
}

// 27.2: no operations, no replies.
func TestWaitsOfNothing(t *testing.T) {
	l := []api.Reply{in(1, 10), out(1, 10)}
	checkWaits(t, nil, l, nil)
	checkWaits(t, []api.Op{}, l, nil)
	checkWaits(t, ticks(2), nil, nil)
	checkWaits(t, ticks(2), []api.Reply{}, nil)
	checkWaits(t, nil, nil, nil)
}

// 27.2: a packet that was never admitted, or after it left, has no wait.
func TestWaitsOfNotAdmitted(t *testing.T) {
	checkWaits(t, ticks(1), []api.Reply{out(1, 10)}, nil)
	checkWaits(t, ticks(2), []api.Reply{out(1, 10), in(1, 10)}, nil)
	// The second one that left is the first one that was admitted before.
	checkWaits(t, ticks(3), []api.Reply{out(1, 10), in(1, 10), out(1, 10)}, []Wait{{packet(1, 0, 10), 1, 3}})
	checkWaits(t, ticks(4), []api.Reply{out(1, 10), in(1, 10), out(1, 10), out(1, 10)}, []Wait{{packet(1, 0, 10), 1, 3}})
}

// 27.2: only a packet with the same flow, number and length is an equal one.
func TestWaitsOfOthers(t *testing.T) {
	p := packet(1, 2, 3)
	came := api.Reply{Kind: api.OpEnqueue, Packet: p, Rank: 9}
	for _, q := range []api.Packet{packet(2, 2, 3), packet(1, 3, 3), packet(1, 2, 4), packet(2, 1, 3), packet(1, 2, 3+1<<32), {}} {
		other := api.Reply{Kind: api.OpDequeue, Packet: q}
		checkWaits(t, ticks(2), []api.Reply{came, other}, nil)
		checkWaits(t, ticks(3), []api.Reply{came, other, {Kind: api.OpDequeue, Packet: p}}, []Wait{{p, 0, 3}})
	}
}

// 27.2: each reply that admitted a packet is used once, the first one first.
func TestWaitsOfEqual(t *testing.T) {
	p := packet(1, 0, 10)
	came, went := in(1, 10), out(1, 10)
	all := []Wait{{p, 0, 3}, {p, 1, 7}}
	for n := range 4 {
		l := append([]api.Reply{came, came}, repeated(n, went)...)
		checkWaits(t, ticks(len(l)), l, all[:min(n, 2)])
	}
	checkWaits(t, ticks(6), []api.Reply{came, went, went, came, came, went}, []Wait{{p, 0, 1}, {p, 7, 31}})
	checkWaits(t, ticks(8), []api.Reply{came, came, went, came, went, went, went, came}, []Wait{{p, 0, 3}, {p, 1, 15}, {p, 7, 31}})
}

// 27.2: many equal packets, never more than a few at once.
func TestWaitsOfManyEqual(t *testing.T) {
	n := 100000
	l := repeated(3, in(1, 10))
	x := make([]api.Op, 3)
	var want []Wait
	for i := range n {
		l = append(l, out(1, 10), in(1, 10))
		x = append(x, tick(1), tick(0))
		want = append(want, Wait{packet(1, 0, 10), uint64(max(0, i-2)), uint64(i)})
	}
	checkWaits(t, x, l, want)
	l = append(repeated(n, in(1, 10)), repeated(n, out(1, 10))...)
	checkWaits(t, make([]api.Op, 2*n), l, slices.Repeat([]Wait{{Packet: packet(1, 0, 10)}}, n))
}

// 27.2: replies for which there is no operation are not considered, and
// operations for which there is no reply change nothing.
func TestWaitsOfMoreAndFewer(t *testing.T) {
	p := packet(1, 0, 10)
	l := []api.Reply{in(1, 10), out(1, 10), in(1, 10), out(1, 10)}
	want := []Wait{{p, 0, 1}, {p, 3, 7}}
	for n, waits := range []int{0, 0, 1, 1, 2, 2, 2, 2} {
		checkWaits(t, ticks(n), l, want[:waits])
		checkWaits(t, ticks(8), l[:min(n, 4)], want[:waits])
	}
}

// 27.2: ticks stop at the greatest number together.
func TestWaitsCapped(t *testing.T) {
	p := packet(1, 0, 10)
	l := []api.Reply{ticked, in(1, 10), ticked, out(1, 10)}
	for _, test := range []struct{ a, b, from, to uint64 }{
		{0, 0, 0, 0},
		{5, 6, 5, 11},
		{most - 1, 0, most - 1, most - 1},
		{most - 1, 1, most - 1, most},
		{most - 1, 2, most - 1, most},
		{1 << 63, 1<<63 - 1, 1 << 63, most},
		{1 << 63, 1 << 63, 1 << 63, most},
		{most, 0, most, most},
		{most, 1, most, most},
		{1, most, 1, most},
		{most, most, most, most},
	} {
		checkWaits(t, []api.Op{tick(test.a), {Kind: api.OpEnqueue}, tick(test.b), {Kind: api.OpDequeue}}, l, []Wait{{p, test.from, test.to}})
	}
	checkWaits(t, []api.Op{tick(most), tick(most), tick(most), tick(most)}, l, []Wait{{p, most, most}})
}

// 27.2: the ticks right before a reply's own index count for it, those at its
// own index do not, whatever the reply is.
func TestWaitsOwnTicks(t *testing.T) {
	p := packet(1, 0, 10)
	l := []api.Reply{ticked, in(1, 10), ticked, out(1, 10), ticked}
	for i, want := range []Wait{{p, 5, 5}, {p, 0, 5}, {p, 0, 5}, {p, 0, 0}, {p, 0, 0}} {
		x := make([]api.Op, 5)
		x[i] = tick(5)
		checkWaits(t, x, l, []Wait{want})
	}
}

// 27.2: only an OpTick ticks, whatever Ticks others have, and whatever their
// replies are.
func TestWaitsOtherTicks(t *testing.T) {
	l := []api.Reply{ticked, in(1, 10), ticked, ticked, out(1, 10)}
	for _, kind := range kinds {
		x := slices.Repeat([]api.Op{{Kind: kind, Flow: 1, Len: 10, Ticks: 5}}, 5)
		want := Wait{Packet: packet(1, 0, 10)}
		if kind == api.OpTick {
			want.From, want.To = 5, 20
		}
		checkWaits(t, x, l, []Wait{want})
	}
}

// 27.3: there are no spans, and no gap, without such indexes, or for a flow and
// itself.
func TestNoSuchFlows(t *testing.T) {
	l := []api.Reply{in(1, 10), in(1, 10), in(2, 10), in(0, 10), in(2, 10), out(1, 10), out(2, 10), ticked}
	wrong := []int{-1, -2, 2, 3, math.MinInt, math.MaxInt, 1 << 32, 1<<32 + 1, -1 << 32}
	for _, f := range append(wrong, 0, 1) {
		for _, g := range wrong {
			checkSpans(t, two, l, f, g, nil)
			checkGap(t, two, l, f, g, 0)
		}
		checkSpans(t, two, l, f, f, nil)
		checkGap(t, two, l, f, f, 0)
		for _, g := range append(wrong, 0, 1) {
			checkSpans(t, nil, l, f, g, nil)
			checkGap(t, nil, l, f, g, 0)
			checkSpans(t, []api.Flow{}, l, f, g, nil)
			checkSpans(t, two[:1], l, f, g, nil)
			checkGap(t, two[:1], l, f, g, 0)
			checkSpans(t, two, nil, f, g, nil)
			checkGap(t, two, nil, f, g, 0)
		}
	}
	checkSpans(t, two, l, 0, 1, [][2]int{{2, 7}})
}

// 27.3: the replies after each of which packets of both wait.
func TestSpans(t *testing.T) {
	for _, test := range []struct {
		about string
		l     []api.Reply
		want  [][2]int
	}{
		{"none waits", []api.Reply{ticked, ticked}, nil},
		{"one waits", []api.Reply{in(1, 1), in(1, 1), out(1, 1)}, nil},
		{"only others wait", []api.Reply{in(3, 1), in(4, 1), in(0, 1)}, nil},
		{"one after the other", []api.Reply{in(1, 1), out(1, 1), in(2, 1), out(2, 1)}, nil},
		{"one reply", []api.Reply{in(1, 1), in(2, 1), out(1, 1)}, [][2]int{{1, 1}}},
		{"one reply, the last", []api.Reply{in(1, 1), in(2, 1)}, [][2]int{{1, 1}}},
		{"to the last reply", []api.Reply{ticked, in(1, 1), in(2, 1), ticked, ticked}, [][2]int{{2, 4}}},
		{"ends with f", []api.Reply{in(1, 1), in(2, 1), ticked, out(1, 1), ticked}, [][2]int{{1, 2}}},
		{"ends with g", []api.Reply{in(1, 1), in(2, 1), ticked, out(2, 1), ticked}, [][2]int{{1, 2}}},
		{"a packet more", []api.Reply{in(1, 1), in(2, 1), in(1, 1), out(1, 1), in(2, 1), out(2, 1), out(2, 1)}, [][2]int{{1, 5}}},
		{"anew", []api.Reply{in(1, 1), in(2, 1), out(1, 1), in(1, 1), out(2, 1), in(2, 1), ticked}, [][2]int{{1, 1}, {3, 3}, {5, 6}}},
		{"anew after some", []api.Reply{in(1, 1), in(2, 1), ticked, out(1, 1), ticked, ticked, in(1, 1), ticked}, [][2]int{{1, 2}, {6, 7}}},
		{"others come and leave", []api.Reply{in(1, 1), in(2, 1), in(3, 1), out(3, 1), out(3, 1), out(4, 1)}, [][2]int{{1, 5}}},
		{"other packets leave", []api.Reply{in(1, 1), in(2, 1), out(1, 9)}, [][2]int{{1, 1}}},
		{"0 bytes", []api.Reply{in(1, 0), in(2, 0), out(1, 0)}, [][2]int{{1, 1}}},
		{"more left than came", []api.Reply{out(1, 1), in(1, 1), in(2, 1), in(1, 1), out(1, 1), out(1, 1), out(1, 1), in(1, 1), in(1, 1), in(1, 1)}, [][2]int{{3, 3}, {9, 9}}},
		{"more left than came of both", []api.Reply{out(2, 1), out(1, 1), out(1, 1), in(1, 1), in(2, 1), in(1, 1), in(2, 1), in(1, 1)}, [][2]int{{7, 7}}},
		{"refused", []api.Reply{in(1, 1), {Kind: api.OpEnqueue, Packet: packet(2, 0, 1), Code: api.ErrShare}, in(2, 1), {Kind: api.OpDequeue, Packet: packet(2, 0, 1), Code: api.ErrNotYet}}, [][2]int{{2, 3}}},
	} {
		t.Run(test.about, func(t *testing.T) {
			checkSpans(t, two, test.l, 0, 1, test.want)
			checkGap(t, two, test.l, 0, 1, gap(two, test.l, 0, 1))
		})
	}
}

// 27.3: packets wait of the first flow with an ID alone.
func TestSpansOfSameID(t *testing.T) {
	flows := []api.Flow{{ID: 1, Cost: 1}, {ID: 1, Cost: 5}, {ID: 2, Cost: 2}, {ID: 2, Cost: 7}}
	l := []api.Reply{in(1, 1), in(1, 1), in(2, 1), in(1, 1), in(2, 1), in(2, 1), out(1, 10), out(2, 20), out(2, 20)}
	for f := range flows {
		for g := range flows {
			var want [][2]int
			var n uint64
			if f == 0 && g == 2 || f == 2 && g == 0 {
				want, n = [][2]int{{2, 8}}, 80
			}
			checkSpans(t, flows, l, f, g, want)
			checkGap(t, flows, l, f, g, n)
		}
	}
}

// waiting is a list after which many packets of both flows wait.
func waiting() []api.Reply {
	return append(repeated(20, in(1, 1)), repeated(20, in(2, 1))...)
}

// 27.3: the greatest difference between any two replies of one span.
func TestGap(t *testing.T) {
	for _, test := range []struct {
		about string
		l     []api.Reply
		want  uint64
	}{
		{"none leaves", waiting(), 0},
		{"no span", []api.Reply{in(1, 1), out(1, 1), out(1, 9), in(2, 1), out(2, 1), out(2, 8)}, 0},
		{"one reply", []api.Reply{in(1, 1), in(2, 1), out(1, 9)}, 0},
		{"one reply, after more of f left than came", []api.Reply{out(1, 5), in(2, 1), in(1, 1), in(1, 1), out(2, 7)}, 0},
		{"one reply, after more of g left than came", []api.Reply{in(1, 1), in(1, 1), in(1, 1), out(2, 9), in(2, 1), in(2, 1), out(2, 7)}, 0},
		{"only f leaves", append(waiting(), out(1, 10), out(1, 20), out(1, 5)), 35},
		{"only g leaves", append(waiting(), out(2, 10), out(2, 20), out(2, 5)), 70},
		{"only others leave", append(waiting(), out(3, 10), out(0, 20)), 0},
		{"example 1", append(waiting(), out(1, 10), out(2, 10)), 20},
		{"by turns", append(waiting(), out(1, 10), out(2, 5), out(1, 10), out(2, 5), out(1, 10), out(2, 5)), 10},
		{"two by turns", append(waiting(), out(1, 10), out(2, 5), out(2, 5), out(1, 10), out(1, 10), out(2, 5)), 20},
		{"greatest at first", append(waiting(), out(1, 50), out(2, 10), out(1, 10), out(2, 2)), 50},
		{"greatest in the middle", append(waiting(), out(1, 3), out(2, 10), out(1, 1), out(2, 15), out(1, 40), out(2, 2)), 49},
		{"greatest in the middle, of f", append(waiting(), out(2, 3), out(1, 10), out(2, 1), out(1, 25), out(2, 40), out(1, 9)), 80},
		{"greatest, then all of it back", append(waiting(), out(2, 3), out(1, 10), out(2, 1), out(1, 25), out(2, 13), out(1, 9)), 33},
		{"greatest at last", append(waiting(), out(2, 50), out(1, 10), out(2, 9), out(2, 30)), 168},
		{"a greater one before it", append(waiting(), out(2, 50), out(1, 30), out(2, 9)), 100},
		{"0 bytes", append(waiting(), out(2, 0), out(1, 0), out(2, 0)), 0},
		{"more than once ahead", append(waiting(), out(1, 1), out(1, 1), out(1, 1), out(2, 1), out(1, 1), out(1, 1), out(1, 1)), 4},
		{"refused", append(waiting(), out(1, 3), api.Reply{Kind: api.OpDequeue, Packet: packet(1, 0, 9), Code: api.ErrNotYet}, in(1, 40)), 3},
	} {
		t.Run(test.about, func(t *testing.T) {
			checkGap(t, two, test.l, 0, 1, test.want)
		})
	}
}

// 27.3: what left before a span, or with the reply that ends it, doesn't count.
func TestGapEnds(t *testing.T) {
	l := []api.Reply{in(1, 1), in(1, 1), in(1, 1), out(1, 99), in(2, 1), out(1, 7), out(1, 99), in(1, 1), ticked}
	checkSpans(t, two, l, 0, 1, [][2]int{{4, 5}, {7, 8}})
	checkGap(t, two, l, 0, 1, 7)
}

// 27.3: differences do not go from one span to the next.
func TestGapOfSpans(t *testing.T) {
	first := []api.Reply{in(1, 1), in(1, 1), in(1, 1), in(2, 1), out(1, 10), out(1, 10)}
	between := []api.Reply{out(1, 50), ticked}
	second := []api.Reply{in(1, 1), in(1, 1), in(1, 1), in(1, 1), out(1, 8), out(1, 8), out(1, 8)}
	checkGap(t, two, slices.Concat(first, between), 0, 1, 20)
	checkGap(t, two, slices.Concat(first, between, second), 0, 1, 24)
	checkGap(t, two, slices.Concat(first, between, second[:6]), 0, 1, 20)
	checkSpans(t, two, slices.Concat(first, between, second), 0, 1, [][2]int{{3, 5}, {8, 14}})
}

// 27.3: a packet of more than 65535 bytes counts as one with that number.
func TestGapOfLong(t *testing.T) {
	for _, n := range []uint64{0, 1, 65534, 65535, 65536, 65537, 1 << 17, 1 << 32, 1 << 63, most} {
		counts := min(n, 65535)
		checkGap(t, two, append(waiting(), out(1, n)), 0, 1, counts)
		checkGap(t, two, append(waiting(), out(2, n)), 0, 1, 2*counts)
		checkGap(t, two, append(waiting(), out(1, n), out(1, n), out(1, n)), 0, 1, 3*counts)
		checkGap(t, two, append(waiting(), out(1, n), out(2, n)), 0, 1, 2*counts)
		checkGap(t, two, append(waiting(), out(2, n), out(1, n), out(1, n), out(2, n)), 0, 1, 2*counts)
	}
}

// 27.3: a gap stops at the greatest number; costs that are greater do not.
func TestGapCapped(t *testing.T) {
	for _, test := range []struct {
		f, g uint64 // what a byte of each flow costs
		l    []api.Reply
		want uint64
	}{
		{most, 1, nil, 0},
		{most, 1, []api.Reply{out(1, 1)}, most},
		{most, 1, []api.Reply{out(1, 2)}, most},
		{most, 1, []api.Reply{out(1, 65535)}, most},
		{most - 1, 1, []api.Reply{out(1, 1)}, most - 1},
		{most / 3, 1, []api.Reply{out(1, 1), out(1, 1)}, most / 3 * 2},
		{most / 3, 1, []api.Reply{out(1, 1), out(1, 1), out(1, 1)}, most},
		{most / 3, 1, []api.Reply{out(1, 1), out(1, 1), out(2, 1), out(1, 1)}, most - 1},
		{1 << 63, 1, []api.Reply{out(1, 1), out(1, 1)}, most},
		{1 << 48, 1, []api.Reply{out(1, 65535)}, 65535 << 48},
		{1 << 48, 1, []api.Reply{out(1, 65536)}, 65535 << 48},
		{1 << 48, 1, []api.Reply{out(1, 65535), out(1, 1)}, most},
		{1 << 48, 1<<48 - 1, []api.Reply{out(1, 65535), out(2, 65535)}, 65535 << 48},
		// Both costs reach the greatest number, but what left by turns doesn't.
		{1 << 63, 1 << 63, []api.Reply{out(1, 1), out(2, 1), out(1, 1), out(2, 1), out(1, 1), out(2, 1)}, 1 << 63},
		{1 << 62, 1 << 62, []api.Reply{out(1, 1), out(2, 1), out(1, 1), out(2, 1), out(1, 1), out(2, 1), out(1, 1), out(2, 1), out(2, 1)}, 1 << 63},
		{most, most - 1, []api.Reply{out(2, 1), out(1, 1)}, most},
		{1<<63 + 5, 1 << 63, []api.Reply{out(2, 1), out(1, 1), out(2, 1), out(1, 1)}, 1<<63 + 10},
		{most - 2, most - 5, []api.Reply{out(2, 1), out(1, 1), out(2, 1), out(1, 1), out(2, 1), out(1, 1)}, most},
		// One cost is greater than any number is, and takes all of the other away.
		{5, most, []api.Reply{out(1, 65535), out(2, 65535), out(1, 3)}, most},
		{most, most, []api.Reply{out(1, 3), out(2, 2)}, most},
		{0, 0, []api.Reply{out(1, 65535), out(2, 65535), out(1, 3)}, 0},
		{0, 7, []api.Reply{out(1, 65535), out(2, 5), out(1, 3)}, 35},
	} {
		flows := []api.Flow{{ID: 1, Cost: test.f}, {ID: 2, Cost: test.g}}
		l := append(waiting(), test.l...)
		checkGap(t, flows, l, 0, 1, test.want)
		if plain := gap(flows, l, 0, 1); plain != test.want {
			t.Errorf("the plain gap is %d, not %d", plain, test.want)
		}
	}
}

// 27.3: the chapter's example.
func TestExample(t *testing.T) {
	l := append(waiting(), out(1, 10), out(2, 10))
	checkGap(t, two, l, 0, 1, 20)
	checkGap(t, two, l[:len(l)-1], 0, 1, 10)
	checkSpans(t, two, l, 0, 1, [][2]int{{20, 41}})
}

// P2 and DOC.md's rule of ownership: the same arguments give the same results,
// which are new memory, and are left as they are.
func TestOwnership(t *testing.T) {
	flows := slices.Clone(two)
	x := ticks(12)
	l := []api.Reply{in(1, 1), in(2, 1), in(1, 1), out(1, 1), in(1, 1), out(2, 1), in(2, 1), numbered(in(2, 1), 5), out(2, 1), numbered(out(2, 1), 5), out(1, 1), in(2, 2)}
	keptX, keptL := slices.Clone(x), slices.Clone(l)
	rows, waits, spans, n := rows(flows, l), waits(x, l), spans(flows, l, 0, 1), gap(flows, l, 0, 1)
	for range 3 {
		checkRows(t, flows, l, rows)
		checkWaits(t, x, l, waits)
		checkSpans(t, flows, l, 0, 1, spans)
		checkGap(t, flows, l, 0, 1, n)
		clear(Rows(flows, l))
		clear(Waits(x, l))
		clear(Spans(flows, l, 0, 1))
	}
	if !slices.Equal(flows, two) || !slices.Equal(x, keptX) || !slices.Equal(l, keptL) {
		t.Error("an argument was modified")
	}
}
