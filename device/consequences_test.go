package device

import (
	"slices"
	"testing"

	"pacemaker/api"
	"pacemaker/header"
	"pacemaker/port"
)

// of returns those datagrams that left one port.
func of(i int, l []Out) []Out {
	var only []Out
	for _, x := range l {
		if x.Port == i {
			only = append(only, x)
		}
	}
	return only
}

// goesTo reports whether a device sends a datagram to a port.
func goesTo(c Conf, s string, i int) bool {
	h, _, err := header.Take(s)
	return err == api.OK && routed(c.Routes, h.Dst) == i
}

// 37.4: what leaves a port, and how it stands, is the same if only its own
// datagrams are sent, and if quite other ones are sent to the others.
func TestSeparation(t *testing.T) {
	left := 0
	for seed := range uint64(100) {
		next := random(seed)
		c := someConfig(next)
		i := next(len(c.Ports))
		c.Routes = append(slices.DeleteFunc(c.Routes, func(r Route) bool { return r.Prefix == api.Prefix{} }), Route{Port: i})
		all, alone, others := made(t, c), made(t, c), made(t, c)
		for range 400 {
			switch n := next(10); {
			case n < 7:
				s := someDatagram(next)
				all.In(s)
				if goesTo(c, s, i) {
					alone.In(s)
					others.In(s)
				}
				for range next(4) {
					if s := someDatagram(next); !goesTo(c, s, i) {
						others.In(s)
					}
				}
			case n < 9:
				l, m := of(i, all.Step()), alone.Step()
				if !slices.Equal(l, m) || !slices.Equal(l, of(i, others.Step())) {
					t.Fatalf("%s left, and %s", text(l), text(m))
				}
				left += len(l)
			default:
				ticks := uint64(next(10))
				all.Tick(ticks)
				alone.Tick(ticks)
				others.Tick(ticks)
			}
			checkAlike(t, i, all, alone, others)
		}
	}
	if left < 1000 {
		t.Errorf("%d left", left)
	}
}

// checkAlike tells whether a port stands in the same way in all devices.
func checkAlike(t *testing.T, i int, l ...*Device) {
	t.Helper()
	for _, d := range l[1:] {
		if d.Boxed(i) != l[0].Boxed(i) || d.Stats(i) != l[0].Stats(i) {
			t.Fatalf("port %d: %d in the box and %v, or %d and %v", i, l[0].Boxed(i), l[0].Stats(i), d.Boxed(i), d.Stats(i))
		}
		for why := range api.Errnos {
			if d.Refused(i, why) != l[0].Refused(i, why) {
				t.Fatalf("port %d refused %d and %d with %d", i, l[0].Refused(i, why), d.Refused(i, why), why)
			}
		}
	}
}

// 37.4: a port whose box is full, or to which nothing can leave, does not stop
// others.
func TestOthersGoOn(t *testing.T) {
	c := row(3, 2, 2)
	c.Ports[0].Shaper.MTU, c.Ports[0].Shaper.Burst = 30, 30
	c.Ports[1].Rules = nil
	d := made(t, c)
	for turn := range 50 {
		for range 5 {
			d.In(datagram(0, 1, 9, "ab"))
			d.In(datagram(1<<24, 1, 9, "ab"))
		}
		s := datagram(2<<24, uint16(turn), 9, "cd")
		checkIn(t, d, s, 2, api.OK)
		l := d.Step()
		if !slices.Equal(of(2, l), []Out{{2, hop(s)}}) || len(of(1, l)) != 0 || len(of(0, l)) > 1 {
			t.Fatalf("Step is %s", text(l))
		}
	}
}

// account is what has become of the datagrams that came to a port.
type account struct{ came, left int }

// check tells whether what came in is in a box, was refused, waits, or has left.
func (a account) check(t *testing.T, d *Device, i int) {
	t.Helper()
	var refused uint64
	for why := range api.Errnos {
		refused += d.Refused(i, why)
	}
	if n := d.Boxed(i) + int(refused) + d.Stats(i).Packets + a.left; n != a.came {
		t.Fatalf("port %d: %d came in, %d are in the box, %d were refused, %d wait, %d left", i, a.came, d.Boxed(i), refused, d.Stats(i).Packets, a.left)
	}
}

// 37.5
func TestNothingIsLost(t *testing.T) {
	for seed := range uint64(60) {
		next := random(seed)
		c := someConfig(next)
		d := made(t, c)
		accounts := make([]account, len(c.Ports))
		for range 600 {
			switch n := next(10); {
			case n < 7:
				if i, err := d.In(someDatagram(next)); err == api.OK {
					accounts[i].came++
				}
			case n < 9:
				for _, x := range d.Step() {
					accounts[x.Port].left++
				}
			default:
				d.Tick(uint64(next(10)))
			}
			for i, a := range accounts {
				a.check(t, d, i)
			}
		}
		// In the end nothing is in a box, and nothing waits.
		for range 2000 {
			d.Tick(10)
			for _, x := range d.Step() {
				accounts[x.Port].left++
			}
		}
		for i, a := range accounts {
			if a.check(t, d, i); d.Boxed(i) != 0 || d.Stats(i).Packets != 0 {
				t.Fatalf("%d are in the box, %d wait", d.Boxed(i), d.Stats(i).Packets)
			}
		}
	}
}

// 37.2, 36.4: what leaves came in, once, with a TTL that is one less.
func TestWhatLeaves(t *testing.T) {
	for seed := range uint64(20) {
		next := random(seed)
		c := someConfig(next)
		for i := range c.Ports {
			c.Ports[i].Rate = 0 // all are green
		}
		d := made(t, c)
		came := make(map[Out]int)
		for range 600 {
			s := someDatagram(next)
			if i, err := d.In(s); err == api.OK {
				if s, err := header.Hop(s); err == api.OK {
					came[Out{i, s}]++
				}
			}
			if next(4) == 0 {
				d.Tick(uint64(next(10)))
			}
			for _, x := range d.Step() {
				if came[x]--; came[x] < 0 {
					t.Fatalf("%q left port %d, but did not come", x.Bytes, x.Port)
				}
			}
		}
	}
}

// 16.3, 37.2: datagrams of one flow leave a port in the order in which they came
// into the device, by virtual start times and by deadlines.
func TestFlowOrder(t *testing.T) {
	for _, rank := range []int{api.RankSTFQ, api.RankEDF} {
		for _, batch := range []int{1, 3, 64} {
			c := row(2, 50, batch)
			for i := range c.Ports {
				s := &c.Ports[i].Shaper
				s.Rank, s.Rate, s.Burst, s.MTU = rank, 40, 200, 100
				s.Flows = []api.Flow{{ID: 0, Cost: 1, Budget: 9, Cap: 3000}, {ID: 1, Cost: 3, Budget: 2, Cap: 3000}}
				c.Ports[i].Rules = []api.Rule{{Low: 1, High: 1, Flow: 1}, {High: 65535}}
			}
			checkFlowOrder(t, c)
		}
	}
}

// checkFlowOrder tells whether the datagrams to each of two ports of two hosts
// leave in order, as their IDs say.
func checkFlowOrder(t *testing.T, c Conf) {
	t.Helper()
	d := made(t, c)
	next := random(uint64(c.Batch))
	last := make(map[[2]int]uint16)
	left := 0
	for id := range uint16(3000) {
		h := api.Header{TTL: 9, ID: id + 1, Dst: uint32(next(2)) << 24, DstPort: uint16(next(2))}
		s, _ := header.Put(h, string(make([]byte, next(70))))
		d.In(s)
		if next(2) == 0 {
			continue
		}
		d.Tick(uint64(next(4)))
		for _, x := range d.Step() {
			h, _, _ := header.Take(x.Bytes)
			flow := [2]int{x.Port, int(h.DstPort)}
			if h.ID <= last[flow] {
				t.Fatalf("%d left behind %d", h.ID, last[flow])
			}
			last[flow] = h.ID
			left++
		}
	}
	if left < 1000 {
		t.Errorf("%d left", left)
	}
}

// 37.4: configurations of other ports do not matter either.
func TestOtherConfigs(t *testing.T) {
	c := config()
	c.Ports = []port.Conf{widePort(), portConfig()}
	d, e := made(t, config()), made(t, c)
	next := random(11)
	for range 500 {
		for range 2 {
			s := datagram(address("10.0.0.1")+uint32(next(2))<<16, 53, 9, "abc")
			d.In(s)
			e.In(s)
		}
		if l, m := of(1, d.Step()), of(1, e.Step()); !slices.Equal(l, m) {
			t.Fatalf("%s left, and %s", text(l), text(m))
		}
		d.Tick(1)
		e.Tick(1)
		checkAlike(t, 1, d, e)
	}
}
