package rules

import (
	"math"
	"slices"
	"testing"

	"pacemaker/addr"
	"pacemaker/api"
)

const last = math.MaxUint32

// random returns a function whose result is less than n.
func random(seed uint64) func(n int) int {
	return func(n int) int {
		seed = seed*6364136223846793005 + 1442695040888963407
		return int(seed>>33) % n
	}
}

// prefix returns the prefix of a text.
func prefix(t *testing.T, s string) api.Prefix {
	t.Helper()
	p, err := addr.ReadPrefix(s)
	if err != api.OK {
		t.Fatalf("ReadPrefix(%q) is %d", s, err)
	}
	return p
}

// anything returns a rule that applies to all headers.
func anything(flow uint32) api.Rule {
	return api.Rule{High: math.MaxUint16, Flow: flow}
}

// applies reports whether a rule applies, by the definition.
func applies(r api.Rule, h api.Header) bool {
	return addr.Has(r.Src, h.Src) && addr.Has(r.Dst, h.Dst) && h.DstPort >= r.Low && h.DstPort <= r.High
}

// first returns the index of the first rule that applies, or -1.
func first(l []api.Rule, h api.Header) int {
	return slices.IndexFunc(l, func(r api.Rule) bool { return applies(r, h) })
}

// newTable makes a table of rules.
func newTable(t *testing.T, l ...api.Rule) *Table {
	t.Helper()
	x, err := New(l)
	if x == nil || err != api.OK || x.Len() != len(l) || Check(l) != api.OK {
		t.Fatalf("New of %d rules is %d, Check is %d", len(l), err, Check(l))
	}
	return x
}

// checkFind tells whether the rule of this index is found, or none if it is -1.
func checkFind(t *testing.T, x *Table, l []api.Rule, h api.Header, want int) {
	t.Helper()
	i, ok := x.Find(h)
	flow, is := x.Flow(h)
	if want < 0 && (i != 0 || ok || flow != 0 || is) {
		t.Fatalf("Find(%v) is %d, %t, and Flow %d, %t, of %v", h, i, ok, flow, is, l)
	}
	if want >= 0 && (i != want || !ok || flow != l[want].Flow || !is) {
		t.Fatalf("Find(%v) is %d, %t, and Flow %d, %t, not %d, of %v", h, i, ok, flow, is, want, l)
	}
}

// edges returns headers with addresses at the ends of all prefixes and right
// outside them, and with ports at the ends of all ranges.
func edges(l []api.Rule) []api.Header {
	src, dst, ports := []uint32{0, last}, []uint32{0, last}, []uint16{0, math.MaxUint16}
	ends := func(p api.Prefix) []uint32 {
		end := p.Addr | ^addr.Mask(p.Bits)
		return []uint32{p.Addr - 1, p.Addr, end, end + 1}
	}
	for _, r := range l {
		src = append(src, ends(r.Src)...)
		dst = append(dst, ends(r.Dst)...)
		ports = append(ports, r.Low-1, r.Low, r.High, r.High+1)
	}
	var all []api.Header
	for _, s := range distinct(src) {
		for _, d := range distinct(dst) {
			for _, p := range distinct(ports) {
				all = append(all, api.Header{Src: s, Dst: d, DstPort: p})
			}
		}
	}
	return all
}

// distinct returns the elements of l in order, each once.
func distinct[T uint16 | uint32](l []T) []T {
	slices.Sort(l)
	return slices.Compact(l)
}

// checkEdges tells whether a table of rules finds the right ones for all headers
// at their edges.
func checkEdges(t *testing.T, l ...api.Rule) {
	t.Helper()
	x := newTable(t, l...)
	for _, h := range edges(l) {
		checkFind(t, x, l, h, first(l, h))
	}
}

// 34.1, the chapter's example.
func TestExample(t *testing.T) {
	ten := prefix(t, "10.0.0.0/8")
	l := []api.Rule{{Src: ten, Low: 53, High: 53, Flow: 1}, anything(2)}
	x := newTable(t, l...)
	checkFind(t, x, l, api.Header{Src: 10<<24 + 1<<16 + 2<<8 + 3, DstPort: 53}, 0)
	checkFind(t, x, l, api.Header{Src: 10<<24 + 1<<16 + 2<<8 + 3, DstPort: 54}, 1)
	checkFind(t, x, l, api.Header{Src: 10<<24 + 1<<16 + 2<<8 + 3, DstPort: 52}, 1)
	checkFind(t, x, l, api.Header{Src: 11 << 24, DstPort: 53}, 1)
	checkFind(t, x, l, api.Header{Src: 10 << 24, Dst: last, DstPort: 53}, 0)
	checkEdges(t, l...)
}

// wrongRules are rules that are not valid.
func wrongRules() []api.Rule {
	l := []api.Rule{
		{Low: 1}, {Low: 2, High: 1}, {Low: math.MaxUint16}, {Low: math.MaxUint16, High: math.MaxUint16 - 1}, {Low: 256, High: 255}, {Low: 1 << 15, High: 1<<15 - 1},
	}
	for _, p := range []api.Prefix{{Bits: -1}, {Bits: 33}, {Addr: 1}, {Addr: 1 << 31}, {Addr: 1, Bits: 31}, {Addr: 10<<24 + 1<<23, Bits: 8}, {Bits: math.MinInt}, {Bits: math.MaxInt}, {Bits: 1 << 32}} {
		l = append(l, api.Rule{Src: p, High: math.MaxUint16}, api.Rule{Dst: p, High: math.MaxUint16}, api.Rule{Src: p, Dst: p}, api.Rule{Src: p, Low: 1})
	}
	return l
}

// checkError tells whether there is no table of rules, and no dead one.
func checkError(t *testing.T, want api.Errno, l ...api.Rule) {
	t.Helper()
	x, err := New(l)
	if x != nil || err != want || Check(l) != want {
		t.Errorf("New of %d rules is %d, Check is %d, not %d", len(l), err, Check(l), want)
	}
	if dead := Dead(l); len(dead) != 0 {
		t.Errorf("Dead of %d rules is %v", len(l), dead)
	}
}

// 34.1, 34.2: how many rules there can be.
func TestRoom(t *testing.T) {
	for n := range 80 {
		l := slices.Repeat([]api.Rule{anything(1)}, n)
		if n > 64 {
			checkError(t, api.ErrFull, l...)
			// The number comes first.
			l[0].Low, l[0].High = 2, 1
			checkError(t, api.ErrFull, l...)
			continue
		}
		checkEdges(t, l...)
	}
	checkError(t, api.ErrFull, make([]api.Rule, 1000)...)
	checkError(t, api.ErrFull, slices.Repeat([]api.Rule{{Low: 1}}, 65)...)
	if Check(nil) != api.OK || Check([]api.Rule{}) != api.OK {
		t.Error("Check of no rules")
	}
}

// 34.1, 34.2: a rule that is not valid, at each place.
func TestWrong(t *testing.T) {
	for _, r := range wrongRules() {
		checkError(t, api.ErrArg, r)
		for _, n := range []int{2, 5, 64} {
			for i := range n {
				l := slices.Repeat([]api.Rule{anything(1)}, n)
				l[i] = r
				checkError(t, api.ErrArg, l...)
			}
		}
		checkError(t, api.ErrFull, append(make([]api.Rule, 64), r)...)
	}
}

// 34.1: no rule applies where there is none.
func TestNone(t *testing.T) {
	for _, l := range [][]api.Rule{nil, {}} {
		x := newTable(t, l...)
		for _, h := range edges([]api.Rule{{Src: prefix(t, "10.0.0.0/8"), Low: 5, High: 9}}) {
			checkFind(t, x, l, h, -1)
		}
	}
}

// 34.1: one rule, with each kind of prefixes and ports.
func TestOne(t *testing.T) {
	prefixes := []string{"0.0.0.0/0", "0.0.0.0/1", "128.0.0.0/1", "10.0.0.0/8", "10.1.2.0/24", "255.255.255.254/31", "0.0.0.0/32", "255.255.255.255/32", "10.1.2.3/32"}
	for i, p := range prefixes {
		for k, q := range prefixes {
			for _, ports := range [][2]uint16{{0, 0}, {0, 65535}, {65535, 65535}, {53, 53}, {1, 65534}, {0, 1023}, {1024, 65535}, {255, 256}} {
				checkEdges(t, api.Rule{Src: prefix(t, p), Dst: prefix(t, q), Low: ports[0], High: ports[1], Flow: uint32(1 + i + 10*k)})
			}
		}
	}
	// The flow 0 is one as others are, and so is the greatest.
	for _, flow := range []uint32{0, last} {
		x := newTable(t, anything(flow))
		if got, ok := x.Flow(api.Header{}); got != flow || !ok {
			t.Errorf("Flow is %d, %t", got, ok)
		}
	}
}

// 34.1: a rule looks at the addresses and at DstPort, and at nothing else.
func TestFields(t *testing.T) {
	l := []api.Rule{{Src: prefix(t, "1.0.0.0/8"), Dst: prefix(t, "2.0.0.0/8"), Low: 100, High: 200, Flow: 7}}
	x := newTable(t, l...)
	for _, h := range []api.Header{{}, {SrcPort: 150}, {SrcPort: 99}, {ID: 5, TTL: 9, DSCP: 63}, {DSCP: 255, SrcPort: 65535, ID: 65535, TTL: 255}} {
		h.Src, h.Dst, h.DstPort = 1<<24, 2<<24, 150
		checkFind(t, x, l, h, 0)
		h.DstPort = 99
		checkFind(t, x, l, h, -1)
		h.DstPort, h.SrcPort = 0, 150
		checkFind(t, x, l, h, -1)
		h.DstPort, h.Src, h.Dst = 150, 2<<24, 1<<24
		checkFind(t, x, l, h, -1)
		h.Src, h.Dst = 1<<24, 1<<24
		checkFind(t, x, l, h, -1)
		h.Src, h.Dst = 2<<24, 2<<24
		checkFind(t, x, l, h, -1)
	}
}

// 34.1: the first of equal rules is found, and of several that apply.
func TestFirst(t *testing.T) {
	ten, one := prefix(t, "10.0.0.0/8"), prefix(t, "10.0.0.1/32")
	in, from := api.Rule{Dst: ten, High: 65535}, api.Rule{Src: ten, High: 65535}
	low, narrow := api.Rule{High: 1023}, api.Rule{Src: one, Dst: one, Low: 7, High: 7}
	l := []api.Rule{narrow, in, from, low, narrow, anything(0), in}
	for i := range l {
		for k := range l {
			l[i], l[k] = l[k], l[i]
			for flow := range l {
				l[flow].Flow = uint32(100 + flow)
			}
			checkEdges(t, l...)
			checkEdges(t, l[:i]...)
		}
	}
	for n := 1; n <= 64; n++ {
		l := slices.Repeat([]api.Rule{narrow}, n)
		for i := range l {
			l[i].Flow = uint32(i)
		}
		x := newTable(t, l...)
		checkFind(t, x, l, api.Header{Src: one.Addr, Dst: one.Addr, DstPort: 7}, 0)
		checkFind(t, x, l, api.Header{Src: one.Addr, Dst: one.Addr, DstPort: 8}, -1)
	}
}

// 34.1: each of 64 rules can be found, the last one too.
func TestEach(t *testing.T) {
	var bySrc, byDst, byPort, nested []api.Rule
	for i := range uint32(64) {
		host := api.Prefix{Addr: i << 20, Bits: 32}
		bySrc = append(bySrc, api.Rule{Src: host, High: 65535, Flow: i})
		byDst = append(byDst, api.Rule{Dst: host, High: 65535, Flow: i})
		byPort = append(byPort, api.Rule{Low: uint16(i * 3), High: uint16(i*3 + 1), Flow: i})
		nested = append(nested, api.Rule{Low: uint16(1000 - i), High: uint16(1000 + i), Flow: i})
	}
	for i := range uint32(64) {
		checkFind(t, newTable(t, bySrc...), bySrc, api.Header{Src: i << 20, Dst: i, DstPort: 9}, int(i))
		checkFind(t, newTable(t, byDst...), byDst, api.Header{Dst: i << 20, Src: i, DstPort: 9}, int(i))
		checkFind(t, newTable(t, byPort...), byPort, api.Header{DstPort: uint16(i * 3)}, int(i))
		checkFind(t, newTable(t, byPort...), byPort, api.Header{DstPort: uint16(i*3 + 1)}, int(i))
		checkFind(t, newTable(t, byPort...), byPort, api.Header{DstPort: uint16(i*3 + 2)}, -1)
		checkFind(t, newTable(t, nested...), nested, api.Header{DstPort: uint16(1000 + i)}, int(i))
		checkFind(t, newTable(t, nested...), nested, api.Header{DstPort: uint16(1000 - i)}, int(i))
	}
	checkFind(t, newTable(t, nested...), nested, api.Header{DstPort: 936}, -1)
	checkFind(t, newTable(t, nested...), nested, api.Header{DstPort: 1064}, -1)
	for n := range 64 {
		// Rules that apply to nothing that is asked for, and then one that does.
		l := append(slices.Repeat([]api.Rule{{Low: 1, High: 1, Flow: 5}}, n), anything(9))
		checkFind(t, newTable(t, l...), l, api.Header{DstPort: 2}, n)
	}
}

// someRule returns a rule whose prefixes and ports are near those of others.
func someRule(next func(n int) int, flow uint32) api.Rule {
	some := func() api.Prefix {
		bits := []int{0, 1, 2, 3, 8, 16, 31, 32}[next(8)]
		a := uint32(next(4))<<30 + uint32(next(2))<<29 + uint32(next(3))*0x01010101
		return api.Prefix{Addr: a & addr.Mask(bits), Bits: bits}
	}
	ports := []uint16{0, 1, 2, 53, 54, 1023, 1024, 65534, 65535}
	low, high := ports[next(9)], ports[next(9)]
	return api.Rule{Src: some(), Dst: some(), Low: min(low, high), High: max(low, high), Flow: flow}
}

// someRules returns n such rules.
func someRules(next func(n int) int, n int) []api.Rule {
	var l []api.Rule
	for range n {
		l = append(l, someRule(next, uint32(next(1000))))
	}
	return l
}

// someHeader returns a header that some such rules apply to.
func someHeader(next func(n int) int) api.Header {
	r, other := someRule(next, 0), someRule(next, 0)
	return api.Header{Src: r.Src.Addr, Dst: other.Dst.Addr ^ uint32(next(2)), DstPort: []uint16{r.Low, r.High, r.High + 1, other.Low}[next(4)], SrcPort: uint16(next(65536))}
}

// 34.1, against the definition, with many rules and headers.
func TestMany(t *testing.T) {
	found := make(map[int]int)
	for seed := range uint64(300) {
		next := random(seed)
		l := someRules(next, 1+next(64))
		x := newTable(t, l...)
		for range 300 {
			h := someHeader(next)
			i := first(l, h)
			checkFind(t, x, l, h, i)
			found[i]++
		}
		if len(l) < 12 {
			checkEdges(t, l...)
		}
	}
	if len(found) < 30 || found[-1] == 0 || found[-1] > 45000 {
		t.Errorf("found: %v", found)
	}
}

// checkDead tells whether these rules are dead.
func checkDead(t *testing.T, l []api.Rule, want ...int) {
	t.Helper()
	if got := Dead(l); !slices.Equal(got, want) {
		t.Errorf("Dead is %v, not %v, of %v", got, want, l)
	}
}

// 34.2
func TestDead(t *testing.T) {
	ten, sixteen, other := prefix(t, "10.0.0.0/8"), prefix(t, "10.1.0.0/16"), prefix(t, "11.0.0.0/8")
	wide := api.Rule{Src: ten, Dst: ten, Low: 50, High: 100, Flow: 1}
	checkDead(t, nil)
	checkDead(t, []api.Rule{wide})
	checkDead(t, []api.Rule{wide, wide}, 1)
	checkDead(t, []api.Rule{wide, wide, wide}, 1, 2)
	checkDead(t, []api.Rule{anything(1), wide}, 1)
	checkDead(t, []api.Rule{wide, anything(1)})
	checkDead(t, []api.Rule{wide, anything(1), wide}, 2)
	checkDead(t, []api.Rule{anything(1), wide, anything(2)}, 1, 2)
	for _, x := range []struct {
		r       api.Rule
		covered bool // by wide
		covers  bool
	}{
		{api.Rule{Src: ten, Dst: ten, Low: 50, High: 100, Flow: 9}, true, true},
		{api.Rule{Src: sixteen, Dst: ten, Low: 50, High: 100}, true, false},
		{api.Rule{Src: ten, Dst: sixteen, Low: 50, High: 100}, true, false},
		{api.Rule{Src: ten, Dst: ten, Low: 51, High: 100}, true, false},
		{api.Rule{Src: ten, Dst: ten, Low: 50, High: 99}, true, false},
		{api.Rule{Src: ten, Dst: ten, Low: 100, High: 100}, true, false},
		{api.Rule{Src: sixteen, Dst: sixteen, Low: 50, High: 50}, true, false},
		{api.Rule{Src: other, Dst: ten, Low: 50, High: 100}, false, false},
		{api.Rule{Src: ten, Dst: other, Low: 50, High: 100}, false, false},
		{api.Rule{Src: ten, Dst: ten, Low: 49, High: 100}, false, true},
		{api.Rule{Src: ten, Dst: ten, Low: 50, High: 101}, false, true},
		{api.Rule{Src: ten, Dst: ten, Low: 49, High: 99}, false, false},
		{api.Rule{Src: ten, Dst: ten, Low: 51, High: 101}, false, false},
		{api.Rule{Src: ten, Dst: ten, Low: 10, High: 49}, false, false},
		{api.Rule{Src: ten, Dst: ten, Low: 101, High: 101}, false, false},
		{api.Rule{Dst: ten, Low: 50, High: 100}, false, true},
		{api.Rule{Src: ten, Low: 50, High: 100}, false, true},
		{api.Rule{Src: sixteen, Low: 50, High: 100}, false, false},
		{api.Rule{Src: sixteen, Dst: ten, Low: 49, High: 100}, false, false},
		{anything(1), false, true},
	} {
		var after, before []int
		if x.covered {
			after = []int{1}
		}
		if x.covers {
			before = []int{1}
		}
		checkDead(t, []api.Rule{wide, x.r}, after...)
		checkDead(t, []api.Rule{x.r, wide}, before...)
	}
}

// 34.2: rules that only cover another one together do not count, though it is
// never found.
func TestDeadTogether(t *testing.T) {
	l := []api.Rule{{Low: 0, High: 99}, {Low: 100, High: 65535}, {Low: 50, High: 150, Flow: 7}}
	checkDead(t, l)
	checkEdges(t, l...)
	l = []api.Rule{{Src: prefix(t, "0.0.0.0/1"), High: 9}, {Src: prefix(t, "128.0.0.0/1"), High: 9}, {High: 9}, {High: 8}}
	checkDead(t, l, 3)
	checkEdges(t, l...)
	l = []api.Rule{{Dst: prefix(t, "0.0.0.0/1"), High: 9}, {Dst: prefix(t, "128.0.0.0/1"), High: 9}, {High: 9}}
	checkDead(t, l)
}

// 34.2: a rule is covered by an earlier one also if that is dead itself, and
// the 64th rule as others are.
func TestDeadMany(t *testing.T) {
	var nested, falling []api.Rule
	var want []int
	for i := range uint16(64) {
		nested = append(nested, api.Rule{Low: i, High: 200 - i})
		falling = append(falling, api.Rule{Low: 100 - i, High: 100 + i})
		if i > 0 {
			want = append(want, int(i))
		}
	}
	checkDead(t, nested, want...)
	checkDead(t, falling)
	checkDead(t, slices.Repeat([]api.Rule{{}}, 64), want...)
	checkDead(t, append(falling[:63:63], api.Rule{Low: 100, High: 100}), 63)
}

// 34.2, against the definition: what each of many rules applies to is written
// out, of all headers that such rules tell apart.
func TestCovers(t *testing.T) {
	var prefixes []api.Prefix
	for bits := range 3 {
		for n := range uint32(1) << bits {
			prefixes = append(prefixes, api.Prefix{Addr: n << 1 << (31 - bits), Bits: bits})
		}
	}
	ports := []uint16{0, 1, 2, 65534, 65535}
	var l []api.Rule
	for _, p := range prefixes {
		for _, q := range prefixes {
			for i, low := range ports {
				for _, high := range ports[i:] {
					l = append(l, api.Rule{Src: p, Dst: q, Low: low, High: high})
				}
			}
		}
	}
	sets := make([][2]uint64, len(l))
	for i, r := range l {
		n := 0
		for src := range uint32(4) {
			for dst := range uint32(4) {
				for _, port := range append([]uint16{3, 1000}, ports...) {
					if applies(r, api.Header{Src: src << 30, Dst: dst << 30, DstPort: port}) {
						sets[i][n/64] |= 1 << (n % 64)
					}
					n++
				}
			}
		}
	}
	for i, r := range l {
		for k, other := range l {
			want := sets[k][0]&^sets[i][0] == 0 && sets[k][1]&^sets[i][1] == 0
			if got := len(Dead([]api.Rule{r, other})) == 1; got != want {
				t.Fatalf("%v covers %v: %t", r, other, got)
			}
		}
	}
}

// 34.3: dead rules are never found. Without them, or without some of them, the
// same rules are found.
func TestDeadOmitted(t *testing.T) {
	many := 0
	for seed := range uint64(300) {
		next := random(seed)
		l := someRules(next, 2+next(63))
		dead := Dead(l)
		many += len(dead)
		var kept []api.Rule
		var index []int // in l, of those that are kept
		for i, r := range l {
			if !slices.Contains(dead, i) || seed%3 == 0 && next(2) == 0 {
				kept = append(kept, r)
				index = append(index, i)
			}
		}
		x, less := newTable(t, l...), newTable(t, kept...)
		for range 300 {
			h := someHeader(next)
			i, ok := x.Find(h)
			k, is := less.Find(h)
			if ok != is || ok && (index[k] != i || slices.Contains(dead, i)) {
				t.Fatalf("Find(%v) is %d, %t, and %d, %t without dead rules", h, i, ok, k, is)
			}
			flow, _ := x.Flow(h)
			if other, _ := less.Flow(h); other != flow {
				t.Fatalf("Flow(%v) is %d, and %d without dead rules", h, flow, other)
			}
		}
		if len(dead) > 0 && seed%3 != 0 && len(Dead(kept)) != 0 {
			t.Fatalf("%v are dead still", Dead(kept))
		}
	}
	if many < 300 {
		t.Errorf("%d rules were dead", many)
	}
}

// 34.4: the same rule is found, whatever is behind it.
func TestBehind(t *testing.T) {
	for seed := range uint64(100) {
		next := random(seed)
		l := someRules(next, 1+next(64))
		x := newTable(t, l...)
		for range 20 {
			h := someHeader(next)
			i, ok := x.Find(h)
			if !ok {
				continue
			}
			for _, n := range []int{0, 1, next(64 - i), 63 - i} {
				other := append(slices.Clone(l[:i+1]), someRules(next, n)...)
				checkFind(t, newTable(t, other...), other, h, i)
			}
			other := append(slices.Clone(l[:i+1]), slices.Repeat([]api.Rule{l[i], anything(5)}, (63-i)/2)...)
			checkFind(t, newTable(t, other...), other, h, i)
		}
	}
}

// 34.1, P1: tables that New did not make have no rules.
func TestNotMade(t *testing.T) {
	refused, _ := New([]api.Rule{{Low: 1}})
	for _, x := range []*Table{nil, {}, new(Table), refused} {
		for _, h := range edges([]api.Rule{{}, {Src: prefix(t, "10.0.0.0/8"), Low: 7, High: 9}}) {
			checkFind(t, x, nil, h, -1)
		}
		if n := x.Len(); n != 0 {
			t.Errorf("Len is %d", n)
		}
	}
}

// P1, 34.1: a header of any numbers.
func TestAnyHeader(t *testing.T) {
	next := random(77)
	l := someRules(next, 40)
	x := newTable(t, l...)
	for range 20000 {
		h := api.Header{Src: uint32(next(1<<31)) << next(2), Dst: uint32(next(1<<31)) << next(2), DstPort: uint16(next(65536)), DSCP: uint8(next(256))}
		checkFind(t, x, l, h, first(l, h))
	}
	for port := range 65536 {
		h := api.Header{Src: l[0].Src.Addr, Dst: l[1].Dst.Addr, DstPort: uint16(port)}
		checkFind(t, x, l, h, first(l, h))
	}
}

// Ownership: no call changes the rules, and a table does not keep them.
func TestRulesAreCopied(t *testing.T) {
	next := random(5)
	l := someRules(next, 64)
	kept := slices.Clone(l)
	x := newTable(t, l...)
	dead := Dead(l)
	if Check(l); !slices.Equal(l, kept) {
		t.Fatal("the rules were changed")
	}
	again := slices.Clone(dead)
	other := Dead(l)
	for i := range other {
		other[i] = -1
	}
	for i := range l {
		l[i] = anything(12345)
	}
	if !slices.Equal(dead, again) {
		t.Error("Dead changed")
	}
	for range 3000 {
		h := someHeader(next)
		checkFind(t, x, kept, h, first(kept, h))
	}
}

// P2: tables know nothing of each other.
func TestTwoTables(t *testing.T) {
	next := random(6)
	l, m := someRules(next, 30), someRules(next, 64)
	x, y := newTable(t, l...), newTable(t, m...)
	for range 3000 {
		h := someHeader(next)
		checkFind(t, x, l, h, first(l, h))
		checkFind(t, y, m, h, first(m, h))
	}
}
