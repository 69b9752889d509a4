package device

import (
	"math"
	"reflect"
	"slices"
	"strings"
	"testing"

	"pacemaker/api"
	"pacemaker/header"
	"pacemaker/port"
	"pacemaker/trie"
)

// checkIn tells whether a datagram comes into the box of a port, or which error
// there is.
func checkIn(t *testing.T, d *Device, s string, want int, code api.Errno) {
	t.Helper()
	if i, err := d.In(s); i != want || err != code {
		t.Fatalf("In(%.40q of %d) is %d, %d, not %d, %d", s, len(s), i, err, want, code)
	}
}

// checkStep tells whether these datagrams leave, in this order.
func checkStep(t *testing.T, d *Device, want ...Out) {
	t.Helper()
	if l := d.Step(); !slices.Equal(l, want) {
		t.Fatalf("Step is %s, not %s", text(l), text(want))
	}
}

// checkBoxed tells how many datagrams are in each box.
func checkBoxed(t *testing.T, d *Device, want ...int) {
	t.Helper()
	for i, n := range want {
		if got := d.Boxed(i); got != n {
			t.Fatalf("Boxed(%d) is %d, not %d", i, got, n)
		}
	}
}

// checkRefused tells how many datagrams a port refused with each error.
func checkRefused(t *testing.T, d *Device, i int, want map[api.Errno]uint64) {
	t.Helper()
	for why := range api.Errnos {
		if n := d.Refused(i, why); n != want[why] {
			t.Fatalf("Refused(%d, %d) is %d, not %d", i, why, n, want[why])
		}
	}
}

// 37.1, 37.2, the chapter's example.
func TestExample(t *testing.T) {
	d := made(t, config())
	s, other := datagram(address("10.1.2.3"), 53, 9, "a"), datagram(address("10.2.2.3"), 53, 9, "b")
	checkIn(t, d, s, 1, api.OK)
	checkBoxed(t, d, 0, 1)
	checkStep(t, d, Out{1, hop(s)})
	checkIn(t, d, other, 0, api.OK)
	checkIn(t, d, s, 1, api.OK)
	checkBoxed(t, d, 1, 1)
	checkStep(t, d, Out{0, hop(other)}, Out{1, hop(s)})
	checkStep(t, d)
}

// checkConfig tells whether a configuration is allowed, or what is wrong with
// it.
func checkConfig(t *testing.T, c Conf, want api.Errno) {
	t.Helper()
	d, err := New(c)
	if err != want || (d != nil) != (want == api.OK) || Check(c) != want {
		t.Fatalf("New is %d, Check is %d, not %d, of %d ports, %d routes, Room %d, Batch %d", err, Check(c), want, len(c.Ports), len(c.Routes), c.Room, c.Batch)
	}
}

// cloned returns a configuration with lists of its own.
func cloned(c Conf) Conf {
	c.Ports, c.Routes = slices.Clone(c.Ports), slices.Clone(c.Routes)
	return c
}

// edit makes one thing of a configuration wrong.
type edit struct {
	do  func(c *Conf)
	err api.Errno
}

// edits are those of all errors, in their order.
func edits() []edit {
	return []edit{
		{func(c *Conf) { c.Ports = append(c.Ports, make([]port.Conf, 7)...) }, api.ErrFlows},
		{func(c *Conf) { c.Ports[0].Yellow = 64 }, api.ErrArg},
		{func(c *Conf) { c.Ports[1].Shaper.MTU = 0 }, api.ErrMTU},
		{func(c *Conf) { c.Room = 0 }, api.ErrCaps},
		{func(c *Conf) { c.Batch = 65 }, api.ErrArg},
		{func(c *Conf) { c.Routes = append(c.Routes, c.Routes[0]) }, api.ErrTwice},
		{func(c *Conf) { c.Routes = append(c.Routes, Route{Port: 2}) }, api.ErrArg},
		{func(c *Conf) { c.Routes = append(c.Routes, c.Routes[1]) }, api.ErrTwice},
	}
}

// 37.1: every choice of wrong things.
func TestWrong(t *testing.T) {
	all := edits()
	for chosen := range 1 << len(all) {
		c, want := cloned(config()), api.OK
		for i, e := range all {
			if chosen>>i&1 == 1 {
				e.do(&c)
				if want == api.OK {
					want = e.err
				}
			}
		}
		checkConfig(t, c, want)
	}
}

// 37.1: how many ports there may be.
func TestPorts(t *testing.T) {
	for n := range 20 {
		want := api.OK
		if n < 1 || n > 8 {
			want = api.ErrFlows
		}
		checkConfig(t, row(n, 5, 5), want)
		checkConfig(t, Conf{Ports: row(n, 1, 1).Ports, Room: 1, Batch: 1}, want)
		if want == api.OK {
			want = api.ErrKind
		}
		if n > 0 {
			// The number of ports comes first.
			checkConfig(t, Conf{Ports: make([]port.Conf, n)}, want)
		}
	}
	checkConfig(t, Conf{}, api.ErrFlows)
	checkConfig(t, Conf{Ports: make([]port.Conf, 1000), Room: 1, Batch: 1}, api.ErrFlows)
}

// 37.1: a wrong configuration of each port, of which the first one counts.
func TestWrongPort(t *testing.T) {
	wrong := []func(c *port.Conf) api.Errno{
		func(c *port.Conf) api.Errno { c.Shaper.Levels = 4; return api.ErrLevels },
		func(c *port.Conf) api.Errno { c.Rules = make([]api.Rule, 65); return api.ErrFull },
		func(c *port.Conf) api.Errno { c.Rules = []api.Rule{{Low: 1}}; return api.ErrArg },
		func(c *port.Conf) api.Errno { c.Rate, c.Near, c.Far = 1, 0, 0; return api.ErrBurst },
		func(c *port.Conf) api.Errno { c.Yellow = 64; return api.ErrArg },
		func(c *port.Conf) api.Errno { c.Shaper.Flows = nil; return api.ErrFlows },
	}
	for n := 1; n <= 8; n++ {
		for i := range n {
			for _, w := range wrong {
				c := row(n, 5, 5)
				want := w(&c.Ports[i])
				if Check(c) != port.Check(c.Ports[i]) {
					t.Fatalf("Check is %d, not %d", Check(c), port.Check(c.Ports[i]))
				}
				checkConfig(t, c, want)
				for k := range n {
					for _, v := range wrong {
						c := row(n, 5, 5)
						want, other := w(&c.Ports[i]), v(&c.Ports[k])
						switch {
						case k < i:
							checkConfig(t, c, other)
						case k > i:
							checkConfig(t, c, want)
						}
					}
				}
			}
		}
	}
}

// 37.1: the Room and the Batch.
func TestRoomAndBatch(t *testing.T) {
	sizes := []int{math.MinInt, -1, 0, 1, 2, 63, 64, 65, 66, 4095, 4096, 4097, 65536, 1 << 32, 1<<32 + 1, math.MaxInt}
	for _, room := range sizes {
		for _, batch := range sizes {
			want := api.OK
			switch {
			case room < 1 || room > 4096:
				want = api.ErrCaps
			case batch < 1 || batch > 64:
				want = api.ErrArg
			}
			checkConfig(t, row(2, room, batch), want)
		}
	}
	if MaxBatch != 64 {
		t.Errorf("MaxBatch is %d", MaxBatch)
	}
}

// wrongRoutes are those whose prefix is not right, or whose port there is not,
// among two ports.
func wrongRoutes() []Route {
	l := []Route{{Port: -1}, {Port: 2}, {Port: 3}, {Port: 8}, {Port: math.MinInt}, {Port: math.MaxInt}, {Port: 1 << 32}, {Port: -1 << 32}, {Prefix: prefix("10.0.0.0/8"), Port: 2}}
	for _, p := range []api.Prefix{{Bits: -1}, {Bits: 33}, {Addr: 1}, {Addr: 1 << 31}, {Addr: 1, Bits: 31}, {Addr: 10<<24 + 1<<23, Bits: 8}, {Bits: math.MinInt}, {Bits: math.MaxInt}, {Bits: 1 << 32}} {
		l = append(l, Route{Prefix: p}, Route{Prefix: p, Port: 1}, Route{Prefix: p, Port: 2})
	}
	return l
}

// 37.1: a route that is wrong, at each place.
func TestWrongRoutes(t *testing.T) {
	for _, r := range wrongRoutes() {
		for _, n := range []int{1, 2, 5} {
			for i := range n {
				c := config()
				c.Routes = nil
				for k := range n {
					c.Routes = append(c.Routes, Route{Prefix: api.Prefix{Addr: uint32(k), Bits: 32}, Port: k % 2})
				}
				c.Routes[i] = r
				checkConfig(t, c, api.ErrArg)
				// A wrong prefix is not one that occurs twice.
				c.Routes = append(c.Routes, r)
				checkConfig(t, c, api.ErrArg)
				c.Routes[0] = c.Routes[n]
				checkConfig(t, c, api.ErrArg)
			}
		}
	}
	// The number of ports decides which of them there are.
	for n := 1; n <= 8; n++ {
		for i := -2; i < 12; i++ {
			c := row(n, 5, 5)
			c.Routes = append(c.Routes, Route{Port: i})
			want := api.OK
			if i < 0 || i >= n {
				want = api.ErrArg
			}
			checkConfig(t, c, want)
		}
	}
}

// 37.1: prefixes that occur twice, whichever ports they have.
func TestTwice(t *testing.T) {
	texts := []string{"0.0.0.0/0", "0.0.0.0/1", "0.0.0.0/32", "10.0.0.0/8", "10.0.0.0/9", "10.0.0.0/32", "255.255.255.255/32", "128.0.0.0/1"}
	for i, p := range texts {
		for k, q := range texts {
			for _, to := range [][2]int{{0, 0}, {0, 1}, {1, 0}} {
				c := config()
				c.Routes = []Route{{prefix(p), to[0]}, {prefix("1.2.3.0/24"), 1}, {prefix(q), to[1]}}
				want := api.OK
				if i == k {
					want = api.ErrTwice
				}
				checkConfig(t, c, want)
				c.Routes[1].Port = 2
				checkConfig(t, c, api.ErrArg)
				c.Routes[1].Port, c.Routes[2].Port = 0, 2
				checkConfig(t, c, api.ErrArg)
				c.Routes[0].Port, c.Routes[2].Port = 2, 1
				checkConfig(t, c, api.ErrArg)
			}
		}
	}
}

// routes returns n routes with different prefixes.
func routes(n int) []Route {
	var l []Route
	for i := range n {
		l = append(l, Route{api.Prefix{Addr: uint32(i) * 0x10001, Bits: 32}, i % 2})
	}
	return l
}

// 37.1: the 4096th and the 4097th route, and which error comes first.
func TestManyRoutes(t *testing.T) {
	if trie.MaxRoutes != 4096 {
		t.Fatalf("MaxRoutes is %d", trie.MaxRoutes)
	}
	c := config()
	for _, n := range []int{0, 1, 4095, 4096, 4097, 5000} {
		c.Routes = routes(n)
		want := api.OK
		if n > 4096 {
			want = api.ErrFull
		}
		checkConfig(t, c, want)
	}
	wrong, twice := Route{Port: 2}, Route{Prefix: api.Prefix{Addr: 7 * 0x10001, Bits: 32}}
	for i, want := range map[int]api.Errno{0: api.ErrArg, 4095: api.ErrArg, 4096: api.ErrArg, 4097: api.ErrFull} {
		c.Routes = routes(4100)
		c.Routes[i] = wrong
		checkConfig(t, c, want)
		if i < 8 {
			continue
		}
		if want == api.ErrArg {
			want = api.ErrTwice
		}
		c.Routes[i] = twice
		checkConfig(t, c, want)
	}
}

// 37.1, 37.2: 4096 routes are all found.
func TestAllRoutes(t *testing.T) {
	c := config()
	c.Room, c.Routes = 4096, routes(4096)
	d := made(t, c)
	for i := range 4096 {
		checkIn(t, d, datagram(uint32(i)*0x10001, 53, 9, ""), i%2, api.OK)
	}
	checkBoxed(t, d, 2048, 2048)
	checkIn(t, d, datagram(4096*0x10001, 53, 9, ""), 0, api.ErrNone)
	checkIn(t, d, datagram(1, 53, 9, ""), 0, api.ErrNone)
}

// 37.1: a new device has no datagrams, and has refused none.
func TestNew(t *testing.T) {
	for n := 1; n <= 8; n++ {
		x := newPair(t, row(n, 4096, 64))
		checkBoxed(t, x.d, make([]int, n)...)
		for i := range n {
			checkRefused(t, x.d, i, nil)
			if st := x.d.Stats(i); st != (api.Stats{Tokens: 1 << 50}) {
				t.Errorf("Stats(%d) is %v", i, st)
			}
		}
		checkStep(t, x.d)
	}
}

// 37.2: what header.Take refuses, ahead of other errors.
func TestInTorn(t *testing.T) {
	s := datagram(address("10.0.0.1"), 53, 9, "ab")
	none := config()
	none.Routes = nil
	full := made(t, row(8, 1, 1))
	checkIn(t, full, datagram(10, 53, 9, ""), 0, api.OK)
	for _, d := range []*Device{made(t, config()), made(t, none), full} {
		boxed := d.Boxed(0)
		for part, want := range map[string]api.Errno{
			"": api.ErrShort, "x": api.ErrShort, s[:27]: api.ErrShort, s[:28]: api.ErrForm, s + "x": api.ErrForm, s[:29]: api.ErrForm, "F" + s[1:]: api.ErrForm,
			s[:5] + "x" + s[6:]: api.ErrSum, s[:16] + "\x00" + s[17:]: api.ErrSum, strings.Repeat("x", 1<<20): api.ErrForm,
		} {
			if _, _, err := header.Take(part); err != want {
				t.Fatalf("Take(%.40q) is %d, not %d", part, err, want)
			}
			checkIn(t, d, part, 0, want)
		}
		if d.Boxed(0) != boxed {
			t.Errorf("Boxed is %d", d.Boxed(0))
		}
		checkRefused(t, d, 0, nil)
	}
}

// 37.2: with no route at all, with one for all addresses, and with several that
// have an address.
func TestInRoutes(t *testing.T) {
	c := row(8, 4096, 64)
	for i, x := range []struct {
		routes []Route
		want   map[string]int // -1 where there is no route
	}{
		{nil, map[string]int{"0.0.0.0": -1, "10.1.2.3": -1, "255.255.255.255": -1}},
		{[]Route{{Port: 5}}, map[string]int{"0.0.0.0": 5, "10.1.2.3": 5, "255.255.255.255": 5}},
		{
			[]Route{{prefix("10.0.0.0/8"), 1}, {prefix("10.1.0.0/16"), 2}, {prefix("10.1.2.0/24"), 3}, {prefix("10.1.2.3/32"), 4}, {prefix("10.1.2.4/31"), 0}},
			map[string]int{
				"10.1.2.3": 4, "10.1.2.2": 3, "10.1.2.4": 0, "10.1.2.5": 0, "10.1.2.6": 3, "10.1.3.3": 2, "10.2.2.3": 1, "11.1.2.3": -1, "9.255.255.255": -1, "10.255.255.255": 1, "10.0.0.0": 1,
			},
		},
		{
			[]Route{{prefix("10.1.2.3/32"), 7}, {prefix("128.0.0.0/1"), 0}, {prefix("0.0.0.0/0"), 6}, {prefix("10.1.0.0/16"), 6}, {prefix("10.1.2.0/24"), 7}},
			map[string]int{"10.1.2.3": 7, "10.1.2.4": 7, "10.1.3.3": 6, "127.255.255.255": 6, "128.0.0.0": 0, "0.0.0.0": 6},
		},
	} {
		c.Routes = x.routes
		d := made(t, c)
		boxed := make([]int, 8)
		for a, want := range x.want {
			s := datagram(address(a), 53, 9, a)
			if want < 0 {
				checkIn(t, d, s, 0, api.ErrNone)
				continue
			}
			checkIn(t, d, s, want, api.OK)
			if boxed[want]++; d.Boxed(want) != boxed[want] {
				t.Fatalf("%d: Boxed(%d) is %d", i, want, d.Boxed(want))
			}
		}
		checkBoxed(t, d, boxed...)
	}
	// It is Dst that decides.
	c.Routes = []Route{{prefix("10.0.0.0/8"), 1}}
	d := made(t, c)
	for _, h := range []api.Header{{Src: 10 << 24}, {Src: 10 << 24, Dst: 11 << 24}, {SrcPort: 10, DstPort: 10, ID: 10}} {
		s, _ := header.Put(h, "")
		checkIn(t, d, s, 0, api.ErrNone)
	}
}

// 37.2: a full box takes none, as long as the port has taken none out of it. The
// TTL and the rules do not matter yet.
func TestInFull(t *testing.T) {
	for _, room := range []int{1, 2, 3, 65, 4096} {
		c := config()
		c.Room, c.Batch = room, 1
		d := made(t, c)
		for i := range room {
			checkIn(t, d, datagram(address("10.1.0.1"), 700, uint8(i), "a"), 1, api.OK)
		}
		for range 3 {
			checkIn(t, d, datagram(address("10.1.0.2"), 53, 9, "a"), 0, api.ErrFull)
			checkIn(t, d, datagram(address("11.1.0.2"), 53, 9, "a"), 0, api.ErrNone)
			checkBoxed(t, d, 0, room)
		}
		checkIn(t, d, datagram(address("10.0.0.1"), 53, 9, "a"), 0, api.OK)
		checkBoxed(t, d, 1, room)
		d.Step()
		checkBoxed(t, d, 0, room-1)
		checkIn(t, d, datagram(address("10.1.0.2"), 53, 9, "a"), 1, api.OK)
		checkIn(t, d, datagram(address("10.1.0.2"), 53, 9, "a"), 0, api.ErrFull)
		// What In refuses is not counted as refused by a port.
		checkRefused(t, d, 0, nil)
		checkRefused(t, d, 1, map[api.Errno]uint64{api.ErrNone: 1})
	}
}

// 37.2: with more in a box than a Batch, so many arrive in one step.
func TestStepArrives(t *testing.T) {
	for _, batch := range []int{1, 2, 3, 63, 64} {
		d := made(t, row(2, 4096, batch))
		var l []string
		for i := range 2*batch + 1 {
			s := datagram(1<<24+5, uint16(i), 9, "a")
			l = append(l, s)
			checkIn(t, d, s, 1, api.OK)
		}
		for len(l) > 0 {
			n := min(batch, len(l))
			var want []Out
			for _, s := range l[:n] {
				want = append(want, Out{1, hop(s)})
			}
			checkStep(t, d, want...)
			l = l[n:]
			checkBoxed(t, d, 0, len(l))
		}
		checkStep(t, d)
	}
}

// 37.2: with more waiting than a Batch, so many leave in one step, also if none
// arrives. What there are too few tokens for leaves later.
func TestStepLeaves(t *testing.T) {
	for _, batch := range []int{1, 2, 5, 64} {
		c := row(1, 4096, batch)
		c.Ports[0].Shaper.MTU, c.Ports[0].Shaper.Rate, c.Ports[0].Shaper.Burst = 28, 28, 28*1000
		d := made(t, c)
		send := func(n int) {
			for i := range n {
				checkIn(t, d, datagram(uint32(i), 1, 9, ""), 0, api.OK)
			}
		}
		send(1000)
		for n := 1000; n > 0; {
			n -= len(d.Step())
		}
		send(10 * batch)
		for range 10 {
			checkStep(t, d) // there are no tokens
		}
		if st := d.Stats(0); st.Packets != 10*batch || st.Tokens != 0 || d.Boxed(0) != 0 {
			t.Fatalf("Stats is %v, %d are in the box", st, d.Boxed(0))
		}
		d.Tick(uint64(batch) + 2)
		if l := d.Step(); len(l) != batch {
			t.Fatalf("%d left, not %d", len(l), batch)
		}
		if l := d.Step(); len(l) != min(2, batch) {
			t.Fatalf("%d left, not %d", len(l), min(2, batch))
		}
		d.Tick(9 * uint64(batch))
		left := 9*batch - min(2, batch)
		for left > 0 {
			l := d.Step()
			if len(l) != min(left, batch) {
				t.Fatalf("%d left, not %d", len(l), min(left, batch))
			}
			left -= len(l)
		}
		checkStep(t, d)
	}
}

// 37.2: all that arrives does so before any leaves, so what came later may leave
// first.
func TestArriveThenLeave(t *testing.T) {
	c := config()
	c.Ports[0].Rate = 0
	d := made(t, c)
	late, early := datagram(address("10.0.0.1"), 53, 9, "late"), datagram(address("10.0.0.1"), 5, 9, "early")
	checkIn(t, d, late, 0, api.OK)
	checkIn(t, d, early, 0, api.OK)
	checkStep(t, d, Out{0, hop(early)}, Out{0, hop(late)})
	c.Batch = 1
	d = made(t, c)
	checkIn(t, d, late, 0, api.OK)
	checkIn(t, d, early, 0, api.OK)
	checkStep(t, d, Out{0, hop(late)})
	checkStep(t, d, Out{0, hop(early)})
}

// 37.2: what leaves is in the order of the ports, and for one port in that in
// which it left.
func TestStepOrder(t *testing.T) {
	for n := 1; n <= 8; n++ {
		d := made(t, row(n, 10, 3))
		var want [2][]Out
		lists := make([][]string, n)
		for k := range 5 {
			for i := n - 1; i >= 0; i-- {
				s := datagram(uint32(i)<<24+uint32(k), uint16(k), 9, strings.Repeat("x", i))
				checkIn(t, d, s, i, api.OK)
				lists[i] = append(lists[i], s)
			}
		}
		for i, l := range lists {
			for k, s := range l {
				want[k/3] = append(want[k/3], Out{i, hop(s)})
			}
		}
		checkStep(t, d, want[0]...)
		checkStep(t, d, want[1]...)
		checkStep(t, d)
	}
}

// 37.2, 37.3: what a port refuses, with each error, counts as part of a Batch.
func TestStepRefused(t *testing.T) {
	c := config()
	c.Room, c.Batch = 100, 64
	d := made(t, c)
	want := make(map[api.Errno]uint64)
	send := func(to uint16, ttl uint8, n int, err api.Errno) {
		t.Helper()
		checkIn(t, d, datagram(address("10.1.0.1"), to, ttl, strings.Repeat("x", n-28)), 1, api.OK)
		if err != api.OK {
			want[err]++
		}
	}
	send(700, 9, 28, api.ErrNone)
	send(700, 0, 28, api.ErrNone)
	send(53, 1, 28, api.ErrDrop)
	send(5, 0, 28, api.ErrDrop)
	send(53, 9, 61, api.ErrLen)
	send(200, 9, 28, api.ErrFlow)
	send(5, 9, 61, api.ErrDrop) // 31 bytes are left that may be green, and 60 yellow
	checkStep(t, d)
	checkRefused(t, d, 1, want)
	d.Tick(100)
	d.Tick(100)
	send(5, 9, 60, api.OK)
	send(53, 9, 60, api.OK)
	send(53, 9, 31, api.ErrOwn)
	send(5, 9, 29, api.OK)
	checkBoxed(t, d, 0, 4)
	if l := d.Step(); len(l) != 2 || l[0].Port != 1 || len(l[0].Bytes) != 60 || l[1].Port != 1 || len(l[1].Bytes) != 29 {
		t.Errorf("Step is %s", text(l))
	}
	checkRefused(t, d, 1, want)
	checkRefused(t, d, 0, nil)
	checkBoxed(t, d, 0, 0)
	// The shaper counts what it refused itself.
	var refused [api.Errnos]uint64
	refused[api.ErrLen], refused[api.ErrFlow], refused[api.ErrOwn] = 1, 1, 1
	if st := d.Stats(1); st.Refused != refused || st.Packets != 1 || st.Now != 200 {
		t.Errorf("Stats is %v", st)
	}
	if d.Stats(0) != (api.Stats{Now: 200, Tokens: 100}) {
		t.Errorf("Stats is %v", d.Stats(0))
	}
	c.Batch = 2
	d = made(t, c)
	for range 5 {
		checkIn(t, d, datagram(address("10.0.0.1"), 700, 9, ""), 0, api.OK)
	}
	for _, n := range []uint64{2, 4, 5, 5} {
		checkStep(t, d)
		checkRefused(t, d, 0, map[api.Errno]uint64{api.ErrNone: n})
		checkBoxed(t, d, 5-int(n))
	}
}

// 37.3: counts do not overflow.
func TestRefusedIsCapped(t *testing.T) {
	d := made(t, config())
	d.sides[0].refused[api.ErrNone] = most - 1
	for range 3 {
		checkIn(t, d, datagram(address("10.0.0.1"), 700, 9, ""), 0, api.OK)
		d.Step()
		checkRefused(t, d, 0, map[api.Errno]uint64{api.ErrNone: most})
	}
}

// 37.2: all ports tick.
func TestTick(t *testing.T) {
	d := made(t, row(8, 5, 5))
	var now uint64
	for _, ticks := range []uint64{0, 1, 7, 0, 1 << 40, most, 1} {
		d.Tick(ticks)
		if now > most-ticks {
			now = most
		} else {
			now += ticks
		}
		for i := range 8 {
			if st := d.Stats(i); st.Now != now {
				t.Fatalf("Stats(%d) is %v", i, st)
			}
		}
	}
}

// 37.3: ports and errors that do not exist.
func TestNoSuchPort(t *testing.T) {
	for n := 1; n <= 8; n++ {
		d := made(t, row(n, 5, 1))
		for i := range n {
			d.sides[i].refused[api.ErrNone] = 7
			for range 2 {
				checkIn(t, d, datagram(uint32(i)<<24, 1, 9, ""), i, api.OK)
			}
		}
		d.Tick(5)
		for _, i := range []int{math.MinInt, -n, -2, -1, n, n + 1, 8, 9, 1 << 32, math.MaxInt} {
			if i >= 0 && i < n {
				continue
			}
			if d.Boxed(i) != 0 || d.Stats(i) != (api.Stats{}) {
				t.Fatalf("Boxed(%d) is %d, Stats %v", i, d.Boxed(i), d.Stats(i))
			}
			for why := api.Errno(-2); why < 40; why++ {
				if d.Refused(i, why) != 0 {
					t.Fatalf("Refused(%d, %d) is %d", i, why, d.Refused(i, why))
				}
			}
		}
		for i := range n {
			if d.Boxed(i) != 2 || d.Stats(i).Now != 5 || d.Refused(i, api.ErrNone) != 7 {
				t.Fatalf("Boxed(%d) is %d, Stats %v", i, d.Boxed(i), d.Stats(i))
			}
			for _, why := range []api.Errno{math.MinInt, -1, api.OK, api.ErrThere, api.Errnos - 1, api.Errnos, api.Errnos + 1, 1 << 32, 1<<32 + api.ErrNone, math.MaxInt} {
				if d.Refused(i, why) != 0 {
					t.Fatalf("Refused(%d, %d) is %d", i, why, d.Refused(i, why))
				}
			}
		}
	}
}

// 37.3, P1: devices that New did not make.
func TestNotMade(t *testing.T) {
	refused, _ := New(Conf{})
	for _, d := range []*Device{nil, {}, new(Device), refused} {
		for range 2 {
			for _, s := range []string{"", "x", datagram(0, 1, 9, ""), datagram(address("10.0.0.1"), 53, 0, "abc")} {
				checkIn(t, d, s, 0, api.ErrNil)
			}
			checkStep(t, d)
			for _, ticks := range []uint64{0, 1, most} {
				d.Tick(ticks)
			}
			for _, i := range []int{math.MinInt, -1, 0, 1, 8, math.MaxInt} {
				if d.Boxed(i) != 0 || d.Stats(i) != (api.Stats{}) {
					t.Fatalf("Boxed(%d) is %d, Stats %v", i, d.Boxed(i), d.Stats(i))
				}
				for why := api.Errno(-2); why < 40; why++ {
					if d.Refused(i, why) != 0 {
						t.Fatalf("Refused(%d, %d) is %d", i, why, d.Refused(i, why))
					}
				}
			}
		}
		if d != nil && !reflect.DeepEqual(d, &Device{}) {
			t.Error("a device that New did not make stores something")
		}
	}
}

// Ownership: no call changes a configuration, and a device does not keep it.
func TestConfigIsCopied(t *testing.T) {
	c, same := someConfig(random(3)), someConfig(random(3))
	x := newPair(t, same)
	x.d = made(t, c)
	Check(c)
	if !reflect.DeepEqual(c, same) {
		t.Fatal("the configuration was changed")
	}
	for _, p := range c.Ports {
		clear(p.Rules)
		clear(p.Shaper.Flows)
	}
	clear(c.Ports)
	clear(c.Routes)
	next := random(4)
	for range 500 {
		x.in(someDatagram(next))
		if next(3) == 0 {
			x.step()
		}
		x.tick(uint64(next(3)))
	}
}

// Ownership: lists that Step returned are not changed by later steps, and do not
// change those.
func TestStepIsNew(t *testing.T) {
	x := newPair(t, row(2, 10, 2))
	for i := range 8 {
		x.in(datagram(uint32(i%2)<<24, uint16(i), 9, ""))
	}
	l := x.d.Step()
	kept := slices.Clone(l)
	x.m.step()
	x.step()
	if !slices.Equal(l, kept) {
		t.Error("a list was changed")
	}
	clear(l)
	x.step()
}

// P2: devices know nothing of each other, also if they have one configuration.
func TestTwoDevices(t *testing.T) {
	next := random(5)
	c := someConfig(next)
	x, y := newPair(t, c), newPair(t, c)
	for range 500 {
		z := []pair{x, y}[next(2)]
		z.in(someDatagram(next))
		if next(3) == 0 {
			z.step()
		}
		z.tick(uint64(next(3)))
		x.check()
		y.check()
	}
}

// P1: strings of any bytes and lengths.
func TestAnyBytes(t *testing.T) {
	x := newPair(t, row(8, 4096, 64))
	next := random(6)
	for range 3000 {
		b := make([]byte, next(80))
		for i := range b {
			b[i] = byte(next(256))
		}
		if err := x.in(string(b)); err != api.ErrShort && err != api.ErrForm {
			t.Fatalf("In(%q) is %d", b, err)
		}
	}
}
