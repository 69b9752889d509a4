package device

import (
	"fmt"
	"math"
	"slices"
	"strings"
	"testing"

	"pacemaker/addr"
	"pacemaker/api"
	"pacemaker/header"
	"pacemaker/port"
)

const most = math.MaxUint64

// random returns a function whose result is less than n.
func random(seed uint64) func(n int) int {
	return func(n int) int {
		seed = seed*6364136223846793005 + 1442695040888963407
		return int(seed>>33) % n
	}
}

// prefix returns the prefix of a text.
func prefix(s string) api.Prefix {
	p, err := addr.ReadPrefix(s)
	if err != api.OK {
		panic(s)
	}
	return p
}

// address returns the address of a text.
func address(s string) uint32 {
	a, err := addr.Read(s)
	if err != api.OK {
		panic(s)
	}
	return a
}

// portConfig returns the configuration of a port which refuses datagrams for
// each reason: those to port 53 have the flow 2, others up to 100 the flow 1, and
// those to 200 one that does not exist.
func portConfig() port.Conf {
	return port.Conf{
		Shaper: api.Config{
			Rank: api.RankEDF, Back: api.BackHeap, Levels: 1, Queues: 2, Packets: 5, Bytes: 220, Share: 1, MTU: 60, Rate: 20, Burst: 100,
			Flows: []api.Flow{{ID: 1, Cost: 2, Budget: 10, Size: 500, Cap: 150}, {ID: 2, Cost: 1, Budget: 20, Size: 100, Cap: 90}},
		},
		Rules: []api.Rule{{Low: 53, High: 53, Flow: 2}, {Low: 1, High: 100, Flow: 1}, {Low: 200, High: 200, Flow: 9}},
		Rate:  8, Near: 120, Far: 60, Yellow: 9,
	}
}

// widePort returns one that refuses no datagrams, and which all of them may
// leave at once, in the order in which they came.
func widePort() port.Conf {
	return port.Conf{
		Shaper: api.Config{
			Rank: api.RankEDF, Back: api.BackHeap, Levels: 1, Queues: 1, Packets: 4096, Bytes: 1 << 40, MTU: 65535, Rate: 1, Burst: 1 << 50,
			Flows: []api.Flow{{Cap: 1 << 40}},
		},
		Rules: []api.Rule{{High: 65535}},
	}
}

// config returns a configuration with two ports, of which the second one has a
// longer prefix.
func config() Conf {
	return Conf{
		Ports: []port.Conf{portConfig(), portConfig()},
		Routes: []Route{
			{Prefix: prefix("10.0.0.0/8")},
			{Prefix: prefix("10.1.0.0/16"), Port: 1},
		},
		Room: 3, Batch: 2,
	}
}

// row returns a configuration with n ports that refuse nothing, where port i has
// the addresses i.0.0.0/8.
func row(n, room, batch int) Conf {
	c := Conf{Room: room, Batch: batch}
	for i := range n {
		c.Ports = append(c.Ports, widePort())
		c.Routes = append(c.Routes, Route{Prefix: api.Prefix{Addr: uint32(i) << 24, Bits: 8}, Port: i})
	}
	return c
}

// made makes a device.
func made(t *testing.T, c Conf) *Device {
	t.Helper()
	d, err := New(c)
	if d == nil || err != api.OK {
		t.Fatalf("New(%v) is %d", c, err)
	}
	return d
}

// datagram returns a datagram to an address, with a body.
func datagram(dst uint32, to uint16, ttl uint8, body string) string {
	s, err := header.Put(api.Header{DSCP: 5, ID: 77, TTL: ttl, Src: 1, Dst: dst, SrcPort: 1000, DstPort: to}, body)
	if err != api.OK {
		panic(err)
	}
	return s
}

// hop returns what leaves for a green datagram that came.
func hop(s string) string {
	s, err := header.Hop(s)
	if err != api.OK {
		panic(err)
	}
	return s
}

// text tells what left.
func text(l []Out) string {
	var all []string
	for _, x := range l {
		all = append(all, fmt.Sprintf("%d: %q", x.Port, x.Bytes))
	}
	return strings.Join(all, ", ")
}

// model is a device by the definition, except for its ports.
type model struct {
	c       Conf
	ports   []*port.Port
	boxes   [][]string
	refused []map[api.Errno]uint64
}

func newModel(c Conf) *model {
	m := &model{c: c, boxes: make([][]string, len(c.Ports))}
	for _, x := range c.Ports {
		p, err := port.New(x)
		if err != api.OK {
			panic(err)
		}
		m.ports = append(m.ports, p)
		m.refused = append(m.refused, make(map[api.Errno]uint64))
	}
	return m
}

// routed returns the port of the longest prefix that has an address, or -1.
func routed(l []Route, a uint32) int {
	at, bits := -1, -1
	for _, r := range l {
		if addr.Has(r.Prefix, a) && r.Prefix.Bits > bits {
			at, bits = r.Port, r.Prefix.Bits
		}
	}
	return at
}

func (m *model) in(s string) (int, api.Errno) {
	h, _, err := header.Take(s)
	if err != api.OK {
		return 0, err
	}
	i := routed(m.c.Routes, h.Dst)
	if i < 0 {
		return 0, api.ErrNone
	}
	if len(m.boxes[i]) == m.c.Room {
		return 0, api.ErrFull
	}
	m.boxes[i] = append(m.boxes[i], s)
	return i, api.OK
}

func (m *model) step() []Out {
	var l []Out
	for i, p := range m.ports {
		for n := 0; n < m.c.Batch && len(m.boxes[i]) > 0; n++ {
			_, err := p.Arrive(m.boxes[i][0])
			m.boxes[i] = m.boxes[i][1:]
			if err != api.OK {
				m.refused[i][err]++
			}
		}
		for range m.c.Batch {
			s, err := p.Leave()
			if err != api.OK {
				break
			}
			l = append(l, Out{i, s})
		}
	}
	return l
}

// pair is a device and what it should be.
type pair struct {
	t *testing.T
	d *Device
	m *model
}

func newPair(t *testing.T, c Conf) pair {
	t.Helper()
	x := pair{t, made(t, c), newModel(c)}
	x.check()
	return x
}

// check tells whether both stand in the same way.
func (x pair) check() {
	x.t.Helper()
	for i, p := range x.m.ports {
		if n := x.d.Boxed(i); n != len(x.m.boxes[i]) {
			x.t.Fatalf("Boxed(%d) is %d, not %d", i, n, len(x.m.boxes[i]))
		}
		if st := x.d.Stats(i); st != p.Stats() {
			x.t.Fatalf("Stats(%d) is %v, not %v", i, st, p.Stats())
		}
		for why := api.Errno(-1); why <= api.Errnos; why++ {
			if n := x.d.Refused(i, why); n != x.m.refused[i][why] {
				x.t.Fatalf("Refused(%d, %d) is %d, not %d", i, why, n, x.m.refused[i][why])
			}
		}
	}
}

// in lets a datagram come into both, and returns the error.
func (x pair) in(s string) api.Errno {
	x.t.Helper()
	i, err := x.d.In(s)
	if want, code := x.m.in(s); i != want || err != code {
		x.t.Fatalf("In(%.40q of %d) is %d, %d, not %d, %d", s, len(s), i, err, want, code)
	}
	x.check()
	return err
}

// step lets both do a step, and returns how many datagrams left.
func (x pair) step() int {
	x.t.Helper()
	l := x.d.Step()
	if want := x.m.step(); !slices.Equal(l, want) {
		x.t.Fatalf("Step is %s, not %s", text(l), text(want))
	}
	x.check()
	return len(l)
}

// tick lets time pass at both.
func (x pair) tick(ticks uint64) {
	x.t.Helper()
	x.d.Tick(ticks)
	for _, p := range x.m.ports {
		p.Tick(ticks)
	}
	x.check()
}

// someConfig returns one with several ports and with routes that cover each
// other.
func someConfig(next func(n int) int) Conf {
	c := Conf{Room: []int{1, 2, 3, 8, 100}[next(5)], Batch: []int{1, 2, 3, 10, 64}[next(5)]}
	for i := range 1 + next(8) {
		p := portConfig()
		p.Shaper.Rank, p.Shaper.Back, p.Shaper.Share, p.Shaper.Rate = 1+next(3), 1+next(3), next(3), uint64(1+next(20))
		if next(3) == 0 {
			p.Rate = 0
		}
		p.Yellow = uint8(i)
		c.Ports = append(c.Ports, p)
	}
	seen := make(map[api.Prefix]bool)
	for range next(20) {
		bits := []int{0, 1, 2, 3, 4, 6, 8, 30, 32}[next(9)]
		r := Route{Prefix: api.Prefix{Addr: someAddress(next) & addr.Mask(bits), Bits: bits}, Port: next(len(c.Ports))}
		if !seen[r.Prefix] {
			c.Routes = append(c.Routes, r)
		}
		seen[r.Prefix] = true
	}
	return c
}

// someAddress returns one that routes are likely to have.
func someAddress(next func(n int) int) uint32 {
	return uint32(next(8))<<29 + uint32(next(2))<<25 + uint32(next(3))
}

// someDatagram returns one that a device or a port may refuse for each reason.
func someDatagram(next func(n int) int) string {
	ttl := []uint8{0, 1, 2, 3, 64, 255, 9, 9, 9, 9, 9, 9}[next(12)]
	to := []uint16{53, 53, 53, 1, 50, 100, 7, 200, 0, 101}[next(10)]
	body := make([]byte, []int{0, 1, 2, 5, 12, 20, 31, 32, 33, 70}[next(10)])
	for i := range body {
		body[i] = byte(next(256))
	}
	s := datagram(someAddress(next), to, ttl, string(body))
	switch next(20) {
	case 0:
		return s[:next(28)]
	case 1:
		i := next(28)
		return s[:i] + string([]byte{s[i] ^ 1}) + s[i+1:]
	}
	return s
}

// 37.2, 37.3: long rows of steps, against the model.
func TestLong(t *testing.T) {
	seen := make(map[api.Errno]int)
	for seed := range uint64(200) {
		next := random(seed)
		x := newPair(t, someConfig(next))
		for range 400 {
			switch n := next(10); {
			case n < 7:
				seen[x.in(someDatagram(next))]++
			case n < 9:
				x.step()
			default:
				x.tick([]uint64{0, 1, 2, 5, uint64(next(100)), most}[next(6)])
			}
		}
		for i, p := range x.m.refused {
			for why, n := range p {
				seen[why] += int(n)
			}
			seen[-1] += len(x.m.boxes[i])
		}
	}
	for _, err := range []api.Errno{
		-1, api.OK, api.ErrShort, api.ErrForm, api.ErrSum, api.ErrNone, api.ErrFull, api.ErrDrop, api.ErrLen, api.ErrFlow, api.ErrPackets, api.ErrBytes, api.ErrOwn, api.ErrShare,
	} {
		if seen[err] < 20 {
			t.Errorf("the error %d was seen %d times", err, seen[err])
		}
	}
}

// 37.2, 37.3: all short rows of steps, against the model.
func TestAllShort(t *testing.T) {
	c := config()
	for i := range c.Ports {
		c.Ports[i].Shaper.Packets, c.Ports[i].Shaper.Burst, c.Ports[i].Rate = 2, 60, 0
	}
	ten, one := address("10.0.0.1"), address("10.1.0.1")
	steps := []func(x pair){
		func(x pair) { x.in(datagram(ten, 53, 9, "a")) },
		func(x pair) { x.in(datagram(one, 53, 9, "b")) },
		func(x pair) { x.in(datagram(one, 5, 1, "c")) },
		func(x pair) { x.step() },
		func(x pair) { x.tick(2) },
	}
	for _, c.Room = range []int{1, 2} {
		c.Batch = 3 - c.Room
		for row := range 5 * 5 * 5 * 5 * 5 {
			x := newPair(t, c)
			for range 5 {
				steps[row%5](x)
				row /= 5
			}
			x.step()
		}
	}
}
