package port

import (
	"fmt"
	"math"
	"reflect"
	"slices"
	"testing"

	"pacemaker/api"
	"pacemaker/conf"
	"pacemaker/header"
	"pacemaker/rules"
)

// checkArrive tells whether a datagram gets a number, or an error.
func checkArrive(t *testing.T, p *Port, s string, want uint32, code api.Errno) {
	t.Helper()
	if n, err := p.Arrive(s); n != want || err != code {
		t.Fatalf("Arrive(%.40q of %d) is %d, %d, not %d, %d", s, len(s), n, err, want, code)
	}
}

// checkLeave tells whether a datagram leaves, or which error there is.
func checkLeave(t *testing.T, p *Port, want string, code api.Errno) {
	t.Helper()
	if s, err := p.Leave(); s != want || err != code {
		t.Fatalf("Leave is %q, %d, not %q, %d", s, err, want, code)
	}
}

// checkWaits tells how many packets and bytes wait.
func checkWaits(t *testing.T, p *Port, packets int, bytes uint64) {
	t.Helper()
	if st := p.Stats(); st.Packets != packets || st.Bytes != bytes || len(p.waiting) != packets {
		t.Fatalf("%d packets, %d datagrams, %d bytes wait, not %d, %d", st.Packets, len(p.waiting), st.Bytes, packets, bytes)
	}
}

// 36.2, the chapter's example.
func TestExample(t *testing.T) {
	for _, c := range []Conf{config(), free()} {
		for _, c.Rules = range [][]api.Rule{nil, {}} {
			p := made(t, c)
			for _, to := range []uint16{0, 1, 53, 200, 65535} {
				for _, ttl := range []uint8{0, 1, 2, 255} {
					for _, n := range []int{28, 60, 61, 65535} {
						checkArrive(t, p, datagram(to, ttl, n), 0, api.ErrNone)
					}
				}
			}
			checkArrive(t, p, "x", 0, api.ErrShort)
			if p.Number() != 0 || p.Stats() != (api.Stats{Tokens: 80}) {
				t.Errorf("Number is %d, Stats %v", p.Number(), p.Stats())
			}
		}
	}
}

// edit makes one thing of a configuration wrong.
type edit struct {
	do  func(c *Conf)
	err api.Errno
}

// edits are those of all errors, in their order.
func edits() []edit {
	return []edit{
		{func(c *Conf) { c.Shaper.Rank = 4 }, api.ErrKind},
		{func(c *Conf) { c.Shaper.Back = 0 }, api.ErrKind},
		{func(c *Conf) { c.Shaper.Levels = 0 }, api.ErrLevels},
		{func(c *Conf) { c.Shaper.Queues = 33 }, api.ErrQueues},
		{func(c *Conf) { c.Shaper.Packets = 4097 }, api.ErrCaps},
		{func(c *Conf) { c.Shaper.MTU = 0 }, api.ErrMTU},
		{func(c *Conf) { c.Shaper.Flows = nil }, api.ErrFlows},
		{func(c *Conf) { c.Shaper.Flows = append(c.Shaper.Flows, c.Shaper.Flows...) }, api.ErrTwice},
		{func(c *Conf) { c.Shaper.Rate = 0 }, api.ErrRate},
		{func(c *Conf) { c.Shaper.Burst = c.Shaper.MTU - 1 }, api.ErrBurst},
		{func(c *Conf) { c.Rules = append(c.Rules, make([]api.Rule, 64)...) }, api.ErrFull},
		{func(c *Conf) { c.Rules[1].High = 0 }, api.ErrArg},
		{func(c *Conf) { c.Rate, c.Near, c.Far = 1, 0, 0 }, api.ErrBurst},
		{func(c *Conf) { c.Yellow = 64 }, api.ErrArg},
	}
}

// checkConfig tells whether a configuration is allowed, or what is wrong with
// it.
func checkConfig(t *testing.T, c Conf, want api.Errno) {
	t.Helper()
	p, err := New(c)
	if err != want || (p != nil) != (want == api.OK) || Check(c) != want {
		t.Fatalf("New(%v) is %d, Check is %d, not %d", c, err, Check(c), want)
	}
}

// cloned returns a configuration that shares nothing with c.
func cloned(c Conf) Conf {
	c.Shaper.Flows, c.Rules = slices.Clone(c.Shaper.Flows), slices.Clone(c.Rules)
	return c
}

// 36.1: every choice of wrong things.
func TestWrong(t *testing.T) {
	all := edits()
	for _, d := range []Conf{config(), free()} {
		for chosen := range 1 << len(all) {
			if chosen>>6&3 == 3 {
				continue // without flows none occurs twice
			}
			c, want := cloned(d), api.OK
			for i, e := range all {
				if chosen>>i&1 == 1 {
					e.do(&c)
					if want == api.OK {
						want = e.err
					}
				}
			}
			checkConfig(t, c, want)
		}
	}
}

// 36.1: what conf.Check and rules.Check refuse.
func TestParts(t *testing.T) {
	var l []Conf
	add := func(do func(c *Conf)) {
		c := cloned(config())
		do(&c)
		l = append(l, c)
	}
	for _, n := range []int{math.MinInt, -1, 0, 1, 2, 3, 4, 16, 17, 32, 33, 4096, 4097, math.MaxInt} {
		add(func(c *Conf) { c.Shaper.Rank = n })
		add(func(c *Conf) { c.Shaper.Back = n })
		add(func(c *Conf) { c.Shaper.Levels = n })
		add(func(c *Conf) { c.Shaper.Queues = n })
		add(func(c *Conf) { c.Shaper.Packets = n })
		add(func(c *Conf) { c.Shaper.Share = n })
		add(func(c *Conf) { c.Rules[3].Src.Bits = n })
		add(func(c *Conf) { c.Rules[0].Dst.Bits = n })
	}
	for _, n := range []uint64{0, 1, 59, 60, 61, 80, 81, 65535, 65536, most/4 + 1, most} {
		add(func(c *Conf) { c.Shaper.Bytes = n })
		add(func(c *Conf) { c.Shaper.MTU = n })
		add(func(c *Conf) { c.Shaper.Rate = n })
		add(func(c *Conf) { c.Shaper.Burst = n })
		add(func(c *Conf) { c.Rules[2].Low = uint16(n) })
		add(func(c *Conf) { c.Rules[2].Dst.Addr = uint32(n) })
	}
	for _, n := range []int{0, 1, 63, 64, 65, 1000} {
		add(func(c *Conf) { c.Rules = make([]api.Rule, n) })
	}
	add(func(c *Conf) { c.Shaper = api.Config{} })
	add(func(c *Conf) { *c = Conf{} })
	for _, c := range l {
		want := conf.Check(c.Shaper)
		if want == api.OK {
			want = rules.Check(c.Rules)
		}
		checkConfig(t, c, want)
	}
}

// 36.1: the meter, and the DSCP of yellow datagrams.
func TestMeterConfig(t *testing.T) {
	sizes := []uint64{0, 1, 2, 255, 256, 1 << 32, most - 1, most}
	for _, rate := range sizes {
		for _, near := range sizes {
			for _, far := range sizes {
				for _, yellow := range []uint8{0, 1, 32, 62, 63, 64, 65, 128, 255} {
					c := config()
					c.Rate, c.Near, c.Far, c.Yellow = rate, near, far, yellow
					want := api.OK
					switch {
					case rate > 0 && near == 0 && far == 0:
						want = api.ErrBurst
					case yellow > 63:
						want = api.ErrArg
					}
					checkConfig(t, c, want)
				}
			}
		}
	}
}

// 36.1: nothing waits in a new port, which has a full bucket and a full meter.
func TestNew(t *testing.T) {
	for _, c := range configs() {
		x := newPair(t, c)
		checkLeave(t, x.p, "", api.ErrEmpty)
		if x.p.Number() != 0 || x.p.Stats() != (api.Stats{Tokens: 80}) {
			t.Errorf("Number is %d, Stats %v", x.p.Number(), x.p.Stats())
		}
	}
}

// torn are no datagrams, each with the error of header.Take.
func torn() map[string]api.Errno {
	s := datagram(53, 9, 30)
	l := map[string]api.Errno{"": api.ErrShort, "x": api.ErrShort, s[:27]: api.ErrShort, s[:28]: api.ErrForm, s[:29]: api.ErrForm, s + "x": api.ErrForm}
	for i, err := range map[int]api.Errno{0: api.ErrForm, 1: api.ErrForm, 4: api.ErrSum, 6: api.ErrForm, 8: api.ErrSum, 9: api.ErrForm, 10: api.ErrSum, 11: api.ErrSum, 12: api.ErrSum, 19: api.ErrSum, 24: api.ErrForm, 27: api.ErrForm} {
		l[s[:i]+string([]byte{s[i] + 1})+s[i+1:]] = err
	}
	return l
}

// 36.2: what header.Take refuses, whichever rules there are.
func TestArriveTorn(t *testing.T) {
	c := config()
	c.Rules = nil
	for _, c := range []Conf{config(), free(), c} {
		x := newPair(t, c)
		for s, want := range torn() {
			if _, _, err := header.Take(s); err != want {
				t.Fatalf("Take(%q) is %d, not %d", s, err, want)
			}
			checkArrive(t, x.p, s, 0, want)
			x.check()
		}
	}
}

// 36.2: what no rule applies to, whatever its TTL and length are.
func TestArriveNone(t *testing.T) {
	x := newPair(t, config())
	for _, to := range []uint16{0, 101, 199, 201, 299, 301, 65535} {
		for _, ttl := range []uint8{0, 1, 2, 255} {
			for _, n := range []int{28, 60, 61, 5000} {
				checkArrive(t, x.p, datagram(to, ttl, n), 0, api.ErrNone)
				x.check()
			}
		}
	}
	// The rule for port 300 is one for an address.
	h := api.Header{TTL: 9, Src: 11 << 24, DstPort: 300}
	checkArrive(t, x.p, put(h, 30), 0, api.ErrNone)
	h.Src = 10<<24 + 5
	checkArrive(t, x.p, put(h, 30), 1, api.OK)
}

// 36.2: the flow is that of the first rule that applies.
func TestArriveFlow(t *testing.T) {
	c := free()
	for i, x := range []struct {
		rules []api.Rule
		err   api.Errno
	}{
		{[]api.Rule{{High: 100, Flow: 1}, {High: 100, Flow: 9}}, api.OK},
		{[]api.Rule{{High: 100, Flow: 9}, {High: 100, Flow: 1}}, api.ErrFlow},
		{[]api.Rule{{High: 6, Flow: 9}, {High: 100, Flow: 1}}, api.OK},
		{[]api.Rule{{High: 6, Flow: 1}, {High: 100, Flow: 9}}, api.ErrFlow},
		{[]api.Rule{{Low: 8, High: 100, Flow: 1}}, api.ErrNone},
		{[]api.Rule{{Dst: api.Prefix{Addr: 10 << 24, Bits: 8}, High: 100, Flow: 9}, {High: 100, Flow: 1}}, api.ErrFlow},
		{[]api.Rule{{Src: api.Prefix{Addr: 11 << 24, Bits: 8}, High: 100, Flow: 9}, {High: 100, Flow: 1}}, api.OK},
	} {
		c.Rules = x.rules
		if _, err := made(t, c).Arrive(datagram(7, 9, 30)); err != x.err {
			t.Errorf("%d: Arrive is %d, not %d", i, err, x.err)
		}
	}
}

// 36.2: each TTL, with rules and without a meter.
func TestArriveTTL(t *testing.T) {
	x := newPair(t, wide(api.RankEDF, api.BackHeap))
	var n uint32
	for ttl := range 256 {
		s := datagram(2, uint8(ttl), 40)
		if ttl < 2 {
			checkArrive(t, x.p, s, 0, api.ErrDrop)
			continue
		}
		n++
		checkArrive(t, x.p, s, n, api.OK)
		checkLeave(t, x.p, sent(s, -1), api.OK)
	}
	if st := x.p.Stats(); st.Refused != [api.Errnos]uint64{} {
		t.Errorf("the shaper refused %v", st.Refused)
	}
}

// 36.2: a datagram is green, yellow or red by all its bytes.
func TestColours(t *testing.T) {
	c := wide(api.RankEDF, api.BackHeap)
	for _, x := range []struct {
		near, far uint64
		n         int
		green     bool
		err       api.Errno
	}{
		{30, 0, 30, true, api.OK},
		{30, 0, 31, false, api.ErrDrop},
		{0, 30, 30, false, api.OK},
		{0, 30, 31, false, api.ErrDrop},
		{29, 30, 30, false, api.OK},
		{29, 29, 30, false, api.ErrDrop},
		{30, 29, 30, true, api.OK},
		{2, 2, 28, false, api.ErrDrop},
		{27, 28, 28, false, api.OK},
		{65534, 65535, 65535, false, api.OK},
		{65535, 1, 65535, true, api.OK},
		{most, most, 65535, true, api.OK},
	} {
		c.Rate, c.Near, c.Far, c.Yellow = 1, x.near, x.far, 33
		p := made(t, c)
		s := datagram(3, 9, x.n)
		if x.err != api.OK {
			checkArrive(t, p, s, 0, x.err)
			checkLeave(t, p, "", api.ErrEmpty)
			continue
		}
		checkArrive(t, p, s, 1, api.OK)
		want := sent(s, 33)
		if x.green {
			want = sent(s, -1)
		}
		checkLeave(t, p, want, api.OK)
	}
	// Without a meter all are green, whatever Near and Far are.
	for _, near := range []uint64{0, 1, most} {
		c.Rate, c.Near, c.Far = 0, near, most-near
		p := made(t, c)
		for n := range 100 {
			s := datagram(3, 9, 28+n*100)
			checkArrive(t, p, s, uint32(n+1), api.OK)
			checkLeave(t, p, sent(s, -1), api.OK)
		}
	}
}

// 36.2: colours of one datagram behind the other, with ticks between. A red one
// takes nothing.
func TestColourRow(t *testing.T) {
	c := wide(api.RankEDF, api.BackHeap)
	c.Rate, c.Near, c.Far, c.Yellow = 4, 100, 50, 1
	p := made(t, c)
	for i, x := range []struct {
		ticks  uint64
		n      int
		colour int
	}{
		{0, 70, api.Green}, {0, 31, api.Yellow}, {0, 31, api.Red}, {0, 30, api.Green}, {0, 28, api.Red},
		{2, 28, api.Red}, {2, 28, api.Red}, {3, 28, api.Green}, {0, 28, api.Red}, {25, 101, api.Red},
		{0, 100, api.Green}, {25, 28, api.Green}, {7, 28, api.Green}, {7, 100, api.Green}, {0, 28, api.Red},
		{50, 51, api.Green}, {0, 50, api.Yellow}, {0, 49, api.Green}, {0, 28, api.Red}, {12, 49, api.Red}, {20, 101, api.Red}, {0, 29, api.Green}, {0, 72, api.Red}, {0, 71, api.Green}, {0, 28, api.Yellow}, {0, 28, api.Red},
	} {
		p.Tick(x.ticks)
		s := datagram(1, 5, x.n)
		n, err := p.Arrive(s)
		if (err == api.ErrDrop) != (x.colour == api.Red) || n != p.Number() && err == api.OK {
			t.Fatalf("%d: Arrive is %d, %d", i, n, err)
		}
		if x.colour == api.Red {
			continue
		}
		dscp := -1
		if x.colour == api.Yellow {
			dscp = 1
		}
		checkLeave(t, p, sent(s, dscp), api.OK)
	}
}

// 36.2: with each DSCP, a yellow datagram is marked, and a green one is not.
// Both have the right checksum.
func TestMarks(t *testing.T) {
	c := wide(api.RankEDF, api.BackHeap)
	for yellow := range 64 {
		c.Rate, c.Near, c.Far, c.Yellow = 1, 40*64, 40*64, uint8(yellow)
		p := made(t, c)
		for i := range 128 {
			h := api.Header{DSCP: uint8(i % 64), ID: uint16(i * 501), TTL: uint8(i + 2), Src: uint32(i) << 24, Dst: 9, SrcPort: 8, DstPort: 4}
			s := put(h, 40)
			checkArrive(t, p, s, uint32(i+1), api.OK)
			h.TTL--
			if i >= 64 {
				h.DSCP = uint8(yellow)
			}
			checkLeave(t, p, put(h, 40), api.OK)
		}
		checkArrive(t, p, datagram(4, 9, 28), 0, api.ErrDrop)
	}
}

// 36.2: each refusal of the shaper, which counts it.
func TestArriveShaper(t *testing.T) {
	c := free()
	p := made(t, c)
	var refused [api.Errnos]uint64
	var n uint32
	no := func(s string, err api.Errno) {
		t.Helper()
		refused[err]++
		checkArrive(t, p, s, 0, err)
		if p.Stats().Refused != refused || p.Number() != n {
			t.Fatalf("refused were %v, Number is %d", p.Stats().Refused, p.Number())
		}
	}
	yes := func(s string) {
		t.Helper()
		n++
		checkArrive(t, p, s, n, api.OK)
		if p.Stats().Refused != refused || p.Number() != n {
			t.Fatalf("refused were %v, Number is %d", p.Stats().Refused, p.Number())
		}
	}
	no(datagram(53, 9, 61), api.ErrLen)
	no(datagram(200, 9, 61), api.ErrLen)
	no(datagram(53, 9, 65535), api.ErrLen)
	no(datagram(200, 9, 60), api.ErrFlow)
	yes(datagram(300, 9, 60))
	no(datagram(300, 9, 28), api.ErrOwn)
	yes(datagram(53, 9, 60))
	yes(datagram(53, 9, 60)) // of the 150 bytes of the flow, 30 are left
	no(datagram(53, 9, 31), api.ErrOwn)
	yes(datagram(50, 9, 60))
	no(datagram(50, 9, 61), api.ErrLen)
	yes(datagram(50, 9, 28)) // of the 300 bytes 32 are left
	no(datagram(50, 9, 33), api.ErrBytes)
	no(datagram(53, 9, 33), api.ErrBytes)
	yes(datagram(50, 9, 32))
	no(datagram(50, 9, 28), api.ErrPackets)
	no(datagram(200, 9, 28), api.ErrFlow)
	no(datagram(53, 9, 61), api.ErrLen)
	checkWaits(t, p, 6, 300)
	c.Shaper.Share = 0
	refused, n = [api.Errnos]uint64{}, 0
	p = made(t, c)
	yes(datagram(50, 9, 60))
	yes(datagram(50, 9, 60))
	yes(datagram(50, 9, 31))
	no(datagram(50, 9, 28), api.ErrShare)
	yes(datagram(53, 9, 28))
}

// tokens returns those of both buckets of a port's meter.
func tokens(p *Port) string {
	return fmt.Sprint(p.meter.A, p.meter.B)
}

// 36.2: what the meter took stays taken where the shaper refuses, and nothing is
// taken where an earlier error applies.
func TestTaken(t *testing.T) {
	c := config()
	c.Near, c.Far = 100, 130
	p := made(t, c)
	for s := range torn() {
		p.Arrive(s)
	}
	checkArrive(t, p, datagram(400, 9, 50), 0, api.ErrNone)
	checkArrive(t, p, datagram(400, 1, 50), 0, api.ErrNone)
	for _, ttl := range []uint8{0, 1} {
		checkArrive(t, p, datagram(53, ttl, 50), 0, api.ErrDrop)
		checkArrive(t, p, datagram(200, ttl, 61), 0, api.ErrDrop)
	}
	if got := tokens(p); got != "100 130" {
		t.Fatalf("the meter has %s", got)
	}
	checkArrive(t, p, datagram(200, 9, 30), 0, api.ErrFlow)
	checkArrive(t, p, datagram(53, 9, 61), 0, api.ErrLen)
	if got := tokens(p); got != "9 130" {
		t.Fatalf("the meter has %s", got)
	}
	checkArrive(t, p, datagram(53, 9, 70), 0, api.ErrLen)
	checkArrive(t, p, datagram(200, 9, 30), 0, api.ErrFlow)
	if got := tokens(p); got != "9 30" {
		t.Fatalf("the meter has %s", got)
	}
	// A red one takes nothing, and does not come to the shaper.
	refused := p.Stats().Refused
	checkArrive(t, p, datagram(53, 9, 61), 0, api.ErrDrop)
	checkArrive(t, p, datagram(200, 9, 31), 0, api.ErrDrop)
	if got := tokens(p); got != "9 30" || p.Stats().Refused != refused {
		t.Fatalf("the meter has %s, the shaper refused %v", got, p.Stats().Refused)
	}
	s := datagram(53, 9, 30)
	checkArrive(t, p, s, 1, api.OK)
	checkLeave(t, p, sent(s, 9), api.OK)
	if got := tokens(p); got != "9 0" || p.Number() != 1 {
		t.Fatalf("the meter has %s, Number is %d", got, p.Number())
	}
}

// 36.2: the same as the calls show it.
func TestTakenSeen(t *testing.T) {
	early := func(p *Port) {
		for s := range torn() {
			p.Arrive(s)
		}
		p.Arrive(datagram(400, 9, 50))
		p.Arrive(datagram(53, 0, 50))
		p.Arrive(datagram(53, 1, 50))
		p.Arrive(datagram(53, 9, 5000)) // red
	}
	for _, with := range []bool{false, true} {
		x := newPair(t, config())
		if with {
			early(x.p)
		}
		s := datagram(53, 9, 60)
		checkArrive(t, x.p, s, 1, api.OK)
		checkLeave(t, x.p, sent(s, -1), api.OK) // all 60 bytes are green
		s = datagram(53, 9, 40)
		if with {
			early(x.p)
		}
		checkArrive(t, x.p, s, 2, api.OK)
		x.p.Tick(7)
		checkLeave(t, x.p, sent(s, 9), api.OK) // all 40 are yellow
	}
	for _, refused := range []string{datagram(200, 9, 33), datagram(200, 9, 60)} {
		p := made(t, config())
		checkArrive(t, p, refused, 0, api.ErrFlow)
		s := datagram(53, 9, 28)
		checkArrive(t, p, s, 1, api.OK)
		checkLeave(t, p, sent(s, 9), api.OK) // fewer than 28 were green
	}
}

// errorsInOrder are those that Arrive looks for, and how to bring each about.
func errorsInOrder() []struct {
	err api.Errno
	do  func(c *Conf, h *api.Header, n *int)
} {
	return []struct {
		err api.Errno
		do  func(c *Conf, h *api.Header, n *int)
	}{
		{api.ErrNone, func(c *Conf, h *api.Header, n *int) { h.DstPort = 5000 }},
		{api.ErrDrop, func(c *Conf, h *api.Header, n *int) { h.TTL = 1 }},
		{api.ErrDrop, func(c *Conf, h *api.Header, n *int) { c.Rate, c.Near, c.Far = 1, 20, 20 }},
		{api.ErrLen, func(c *Conf, h *api.Header, n *int) { *n = 61 }},
		{api.ErrFlow, func(c *Conf, h *api.Header, n *int) { c.Shaper.Flows = c.Shaper.Flows[2:] }},
		{api.ErrBytes, func(c *Conf, h *api.Header, n *int) { c.Shaper.Bytes = 30 }},
		{api.ErrOwn, func(c *Conf, h *api.Header, n *int) { c.Shaper.Flows[0].Cap = 30 }},
	}
}

// 36.2: each choice of errors that apply, of which the first one is returned.
func TestArriveOrder(t *testing.T) {
	all := errorsInOrder()
	for chosen := range 1 << len(all) {
		c, h, n, want := cloned(free()), api.Header{TTL: 2, DstPort: 7}, 40, api.OK
		shaped := uint64(1)
		for i, x := range all {
			if chosen>>i&1 == 1 {
				x.do(&c, &h, &n)
				if want == api.OK {
					want = x.err
					if i < 3 {
						shaped = 0
					}
				}
			}
		}
		p := made(t, c)
		s := put(h, n)
		for _, part := range []string{s[:27], s[:28], s + "x"} {
			if _, _, err := header.Take(part); err == api.OK {
				t.Fatal("a part is a datagram")
			} else {
				checkArrive(t, p, part, 0, err)
			}
		}
		if want == api.OK {
			checkArrive(t, p, s, 1, api.OK)
			continue
		}
		checkArrive(t, p, s, 0, want)
		// What does not come to the shaper is not counted by it.
		var refused [api.Errnos]uint64
		refused[want] = shaped
		if p.Stats().Refused != refused || p.Number() != 0 {
			t.Fatalf("the shaper refused %v, Number is %d", p.Stats().Refused, p.Number())
		}
	}
}

// 36.2, 36.3: the first datagram has the number 1, each next one is one more,
// and those that are refused have none.
func TestNumbers(t *testing.T) {
	p := made(t, wide(api.RankSRS, api.BackCalendar))
	for n := range uint32(3000) {
		if p.Number() != n {
			t.Fatalf("Number is %d, not %d", p.Number(), n)
		}
		switch n % 5 {
		case 0:
			checkArrive(t, p, "", 0, api.ErrShort)
		case 1:
			checkArrive(t, p, datagram(5, 9, 28), 0, api.ErrNone)
		case 2:
			checkArrive(t, p, datagram(3, 1, 28), 0, api.ErrDrop)
		case 3:
			p.Leave()
		case 4:
			p.Tick(3)
		}
		if p.Number() != n {
			t.Fatalf("Number is %d, not %d", p.Number(), n)
		}
		checkArrive(t, p, datagram(uint16(n%5), 9, 28), n+1, api.OK)
	}
	for {
		if _, err := p.Leave(); err != api.OK {
			break
		}
	}
	if p.Number() != 3000 {
		t.Errorf("Number is %d", p.Number())
	}
}

// 36.2, 36.3: numbers are modulo 2^32.
func TestNumberWraps(t *testing.T) {
	p := made(t, wide(api.RankEDF, api.BackHeap))
	p.number = math.MaxUint32 - 2
	var l []string
	for i, want := range []uint32{math.MaxUint32 - 1, math.MaxUint32, 0, 1, 2} {
		l = append(l, datagram(3, 9, 28+i))
		checkArrive(t, p, l[i], want, api.OK)
		if p.Number() != want {
			t.Errorf("Number is %d, not %d", p.Number(), want)
		}
	}
	for _, s := range l {
		checkLeave(t, p, sent(s, -1), api.OK)
	}
	checkLeave(t, p, "", api.ErrEmpty)
}

// 36.3: what has left waits no longer; what there are too few tokens for leaves
// after a Tick.
func TestLeave(t *testing.T) {
	p := made(t, free())
	checkLeave(t, p, "", api.ErrEmpty)
	checkLeave(t, p, "", api.ErrEmpty)
	a, b, c := datagram(53, 9, 60), datagram(7, 9, 50), datagram(7, 9, 40)
	checkArrive(t, p, a, 1, api.OK)
	checkArrive(t, p, b, 2, api.OK)
	checkArrive(t, p, c, 3, api.OK)
	checkWaits(t, p, 3, 150)
	checkLeave(t, p, sent(b, -1), api.OK) // the flow 1 has less time
	checkWaits(t, p, 2, 100)
	for _, left := range []uint64{30, 30} {
		checkLeave(t, p, "", api.ErrNotYet)
		if st := p.Stats(); st.Tokens != left || st.Refused != [api.Errnos]uint64{} {
			t.Fatalf("Stats is %v", st)
		}
	}
	p.Tick(1)
	checkLeave(t, p, sent(c, -1), api.OK)
	checkWaits(t, p, 1, 60)
	checkLeave(t, p, "", api.ErrNotYet)
	p.Tick(5)
	checkLeave(t, p, "", api.ErrNotYet)
	p.Tick(1)
	checkLeave(t, p, sent(a, -1), api.OK)
	checkWaits(t, p, 0, 0)
	for range 3 {
		checkLeave(t, p, "", api.ErrEmpty)
	}
	if st := p.Stats(); st.Now != 7 || st.Tokens != 0 || p.Number() != 3 {
		t.Errorf("Stats is %v, Number %d", st, p.Number())
	}
}

// 36.3: of two queues, the second example of the document: c leaves first, ahead
// of a, which came before it and is of the same flow.
func TestQueues(t *testing.T) {
	c := free()
	c.Shaper.Back = api.BackQueues
	p := made(t, c)
	l := []string{datagram(7, 9, 28), datagram(53, 9, 28), datagram(8, 9, 28)}
	for i, s := range l {
		checkArrive(t, p, s, uint32(i+1), api.OK)
	}
	checkLeave(t, p, sent(l[2], -1), api.OK)
	checkLeave(t, p, sent(l[0], -1), api.OK)
	checkLeave(t, p, "", api.ErrNotYet)
	p.Tick(1)
	checkLeave(t, p, sent(l[1], -1), api.OK)
}

// 36.3: time passes for the shaper and for the meter, as far as there are the
// latter's tokens.
func TestTick(t *testing.T) {
	for _, c := range []Conf{config(), free()} {
		x := newPair(t, c)
		x.arrive(datagram(53, 9, 60))
		x.leave()
		var now uint64
		for _, ticks := range []uint64{0, 1, 0, 1, 5, most - 20, 0, 12, 1, most, 1} {
			x.tick(ticks)
			if now > most-ticks {
				now = most
			} else {
				now += ticks
			}
			if st := x.p.Stats(); st.Now != now {
				t.Fatalf("Now is %d, not %d", st.Now, now)
			}
			x.arrive(datagram(53, 9, 28))
			x.leave()
			x.arrive(datagram(53, 9, 35))
			x.leave()
		}
	}
	for _, ticks := range []uint64{0, 1, 59, 60, 61, 99, 100, most} {
		x := newPair(t, config())
		x.arrive(datagram(200, 9, 60))
		x.arrive(datagram(200, 9, 40))
		x.tick(ticks)
		near := min(ticks, 60)
		want := fmt.Sprint(near, min(ticks-near, 40))
		if got := tokens(x.p); got != want {
			t.Errorf("after %d ticks the meter has %s, not %s", ticks, got, want)
		}
	}
	c := config()
	c.Rate, c.Near, c.Far = most, most, most
	x := newPair(t, c)
	x.p.meter.A, x.p.meter.B, x.m.a, x.m.b = 0, 0, 0, 0
	x.tick(1)
	if got, want := tokens(x.p), fmt.Sprint(uint64(most), 0); got != want {
		t.Errorf("after a tick the meter has %s", got)
	}
	x.tick(most)
	if got, want := tokens(x.p), fmt.Sprint(uint64(most), uint64(most)); got != want {
		t.Errorf("after all ticks the meter has %s", got)
	}
}

// checkNotMade tells whether a port is one that New did not make.
func checkNotMade(t *testing.T, p *Port) {
	t.Helper()
	for range 2 {
		for _, s := range []string{"", "x", datagram(53, 0, 28), datagram(53, 9, 30), datagram(400, 9, 61)} {
			checkArrive(t, p, s, 0, api.ErrNil)
		}
		checkLeave(t, p, "", api.ErrNil)
		for _, ticks := range []uint64{0, 1, most} {
			p.Tick(ticks)
		}
		if p.Stats() != (api.Stats{}) || p.Number() != 0 {
			t.Fatalf("Stats is %v, Number %d", p.Stats(), p.Number())
		}
	}
}

// 36.3, P1: ports that New did not make.
func TestNotMade(t *testing.T) {
	refused, _ := New(Conf{})
	for _, p := range []*Port{nil, {}, new(Port), refused} {
		checkNotMade(t, p)
		if p != nil && !reflect.DeepEqual(p, &Port{}) {
			t.Error("a port that New did not make stores something")
		}
	}
}

// Ownership: no call changes a configuration, and a port does not keep it.
func TestConfigIsCopied(t *testing.T) {
	c := config()
	x := newPair(t, cloned(c))
	p := made(t, c)
	Check(c)
	if !reflect.DeepEqual(c, config()) {
		t.Fatal("the configuration was changed")
	}
	clear(c.Rules)
	clear(c.Shaper.Flows)
	x.p = p
	next := random(8)
	for range 300 {
		x.arrive(someDatagram(next))
		x.leave()
		x.tick(uint64(next(9)))
	}
}

// P2: ports know nothing of each other, also if they have one configuration.
func TestTwoPorts(t *testing.T) {
	c := config()
	x, y := newPair(t, c), newPair(t, c)
	next := random(9)
	for range 500 {
		z := []pair{x, y}[next(2)]
		z.arrive(someDatagram(next))
		if next(2) == 0 {
			z.leave()
		}
		if next(3) == 0 {
			z.tick(uint64(next(9)))
		}
		x.check()
		y.check()
	}
}

// P1: strings of any bytes and lengths.
func TestAnyBytes(t *testing.T) {
	x := newPair(t, wide(api.RankSTFQ, api.BackQueues))
	next := random(10)
	for range 5000 {
		b := make([]byte, next(80))
		for i := range b {
			b[i] = byte(next(256))
		}
		if err := x.arrive(string(b)); err != api.ErrShort && err != api.ErrForm {
			t.Fatalf("Arrive(%q) is %d", b, err)
		}
	}
	for _, n := range []int{65535, 65536, 65564, 1 << 20} {
		want := api.ErrForm
		if n == 65535 {
			checkArrive(t, x.p, datagram(1, 9, n), 1, api.OK)
			continue
		}
		checkArrive(t, x.p, datagram(1, 9, 65535)+string(make([]byte, n-65535)), 0, want)
	}
}
