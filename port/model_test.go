package port

import (
	"math"
	"math/big"
	"slices"
	"testing"

	"pacemaker/addr"
	"pacemaker/api"
	"pacemaker/header"
	"pacemaker/shaper"
)

const most = math.MaxUint64

// random returns a function whose result is less than n.
func random(seed uint64) func(n int) int {
	return func(n int) int {
		seed = seed*6364136223846793005 + 1442695040888963407
		return int(seed>>33) % n
	}
}

// config returns a configuration with three flows, of which that of packets to
// port 53 has more time than the one of those from 1 to 100, and with a rule for
// a flow that does not exist.
func config() Conf {
	return Conf{
		Shaper: api.Config{
			Rank: api.RankEDF, Back: api.BackHeap, Levels: 2, Queues: 2, Packets: 6, Bytes: 300, Share: 2, MTU: 60, Rate: 10, Burst: 80,
			Flows: []api.Flow{{ID: 1, Cost: 2, Budget: 10, Size: 500, Cap: 200}, {ID: 2, Cost: 1, Budget: 20, Size: 100, Cap: 150}, {ID: 3, Cost: 1, Budget: 5, Cap: 60}},
		},
		Rules: []api.Rule{
			{Low: 53, High: 53, Flow: 2},
			{Low: 1, High: 100, Flow: 1},
			{Src: api.Prefix{Addr: 10 << 24, Bits: 8}, Low: 300, High: 300, Flow: 3},
			{Low: 200, High: 200, Flow: 9},
		},
		Rate: 1, Near: 60, Far: 40, Yellow: 9,
	}
}

// free returns the same without a meter.
func free() Conf {
	c := config()
	c.Rate, c.Near, c.Far = 0, 0, 0
	return c
}

// wide returns one without a meter in which as many datagrams as there may be
// have room, all may leave at once, and each flow has its own port.
func wide(rank, back int) Conf {
	c := Conf{Shaper: api.Config{Rank: rank, Back: back, Levels: 1, Queues: 4, Packets: 4096, Bytes: 1 << 40, MTU: 65535, Rate: 1 << 40, Burst: 1 << 40}}
	for id := range uint32(5) {
		c.Shaper.Flows = append(c.Shaper.Flows, api.Flow{ID: id, Cost: uint64(id*id) + 1, Budget: uint64(id * 7), Size: uint64(id * 1000), Cap: 1 << 40})
		c.Rules = append(c.Rules, api.Rule{Low: uint16(id), High: uint16(id), Flow: id})
	}
	return c
}

// made makes a port.
func made(t *testing.T, c Conf) *Port {
	t.Helper()
	p, err := New(c)
	if p == nil || err != api.OK {
		t.Fatalf("New(%v) is %d", c, err)
	}
	return p
}

// datagram returns a datagram to a port of a device, with n bytes in all.
func datagram(to uint16, ttl uint8, n int) string {
	return put(api.Header{DSCP: 5, ID: 77, TTL: ttl, Src: 10<<24 + 1, Dst: 10<<24 + 2, SrcPort: 1000, DstPort: to}, n)
}

// put returns the datagram with a header and n bytes in all, 28 or more.
func put(h api.Header, n int) string {
	body := make([]byte, n-header.Size)
	for i := range body {
		body[i] = byte(i*7 + n)
	}
	s, err := header.Put(h, string(body))
	if err != api.OK {
		panic(err)
	}
	return s
}

// sent returns what leaves for a datagram that came, marked with a DSCP unless
// that is below 0.
func sent(s string, dscp int) string {
	h, body, err := header.Take(s)
	if err != api.OK || h.TTL < 2 {
		panic(err)
	}
	h.TTL--
	if dscp >= 0 {
		h.DSCP = uint8(dscp)
	}
	s, _ = header.Put(h, body)
	return s
}

// numbered is a datagram that waits.
type numbered struct {
	id uint32
	s  string
}

// model is a port by the definition, except for its shaper.
type model struct {
	c       Conf
	queue   *shaper.Shaper
	a, b    uint64 // the tokens of the meter
	number  uint32
	waiting []numbered
}

func newModel(c Conf) *model {
	queue, err := shaper.New(c.Shaper)
	if err != api.OK {
		panic(err)
	}
	return &model{c: c, queue: queue, a: c.Near, b: c.Far}
}

// applies reports whether a rule applies.
func applies(r api.Rule, h api.Header) bool {
	return addr.Has(r.Src, h.Src) && addr.Has(r.Dst, h.Dst) && r.Low <= h.DstPort && h.DstPort <= r.High
}

func (m *model) arrive(s string) (uint32, api.Errno) {
	h, _, err := header.Take(s)
	if err != api.OK {
		return 0, err
	}
	i := slices.IndexFunc(m.c.Rules, func(r api.Rule) bool { return applies(r, h) })
	if i < 0 {
		return 0, api.ErrNone
	}
	if h.TTL < 2 {
		return 0, api.ErrDrop
	}
	n, dscp := uint64(len(s)), -1
	switch {
	case m.c.Rate == 0:
	case m.a >= n:
		m.a -= n
	case m.b >= n:
		m.b -= n
		dscp = int(m.c.Yellow)
	default:
		return 0, api.ErrDrop
	}
	r := m.queue.Do(api.Op{Kind: api.OpEnqueue, Flow: m.c.Rules[i].Flow, ID: m.number + 1, Len: n})
	if r.Code != api.OK {
		return 0, r.Code
	}
	m.number++
	m.waiting = append(m.waiting, numbered{m.number, sent(s, dscp)})
	return m.number, api.OK
}

func (m *model) leave() (string, api.Errno) {
	r := m.queue.Do(api.Op{Kind: api.OpDequeue})
	if r.Code != api.OK {
		return "", r.Code
	}
	i := slices.IndexFunc(m.waiting, func(x numbered) bool { return x.id == r.Packet.ID })
	s := m.waiting[i].s
	m.waiting = slices.Delete(m.waiting, i, i+1)
	return s, api.OK
}

// filled returns how many tokens there are after as many of those that come are
// added as there is room for, and takes them away from those.
func filled(tokens, room uint64, come *big.Int) uint64 {
	n := new(big.Int).SetUint64(room - tokens)
	if come.Cmp(n) < 0 {
		n.Set(come)
	}
	come.Sub(come, n)
	return tokens + n.Uint64()
}

func (m *model) tick(ticks uint64) {
	m.queue.Do(api.Op{Kind: api.OpTick, Ticks: ticks})
	if m.c.Rate == 0 {
		return
	}
	come := new(big.Int).SetUint64(m.c.Rate)
	come.Mul(come, new(big.Int).SetUint64(ticks))
	m.a = filled(m.a, m.c.Near, come)
	m.b = filled(m.b, m.c.Far, come)
}

// pair is a port and what it should be.
type pair struct {
	t *testing.T
	p *Port
	m *model
}

func newPair(t *testing.T, c Conf) pair {
	t.Helper()
	x := pair{t, made(t, c), newModel(c)}
	x.check()
	return x
}

// check tells whether both stand in the same way.
func (x pair) check() {
	x.t.Helper()
	want := x.m.queue.Do(api.Op{Kind: api.OpStats}).Stats
	for range 2 {
		if st, n := x.p.Stats(), x.p.Number(); st != want || n != x.m.number {
			x.t.Fatalf("Stats is %v, Number %d, not %v, %d", st, n, want, x.m.number)
		}
	}
	if len(x.p.waiting) != len(x.m.waiting) {
		x.t.Fatalf("%d datagrams wait, not %d", len(x.p.waiting), len(x.m.waiting))
	}
}

// arrive lets a datagram arrive at both, and returns the error.
func (x pair) arrive(s string) api.Errno {
	x.t.Helper()
	n, err := x.p.Arrive(s)
	if id, want := x.m.arrive(s); n != id || err != want {
		x.t.Fatalf("Arrive(%.40q of %d) is %d, %d, not %d, %d", s, len(s), n, err, id, want)
	}
	x.check()
	return err
}

// leave lets a datagram leave both, and returns the error.
func (x pair) leave() api.Errno {
	x.t.Helper()
	s, err := x.p.Leave()
	if want, code := x.m.leave(); s != want || err != code {
		x.t.Fatalf("Leave is %q, %d, not %q, %d", s, err, want, code)
	}
	x.check()
	return err
}

// tick lets time pass at both.
func (x pair) tick(ticks uint64) {
	x.t.Helper()
	x.p.Tick(ticks)
	x.m.tick(ticks)
	x.check()
}

// someDatagram returns one that a port may refuse for each reason.
func someDatagram(next func(n int) int) string {
	h := api.Header{
		DSCP: uint8(next(64)), ID: uint16(next(65536)), TTL: []uint8{0, 1, 2, 3, 64, 255, 9, 9, 9, 9, 9, 9}[next(12)],
		Src: uint32(9+next(3)) << 24, Dst: uint32(next(1 << 20)), SrcPort: uint16(next(65536)),
		DstPort: []uint16{53, 53, 53, 1, 50, 100, 300, 300, 200, 0, 101}[next(11)],
	}
	s := put(h, 28+[]int{0, 1, 2, 5, 12, 20, 31, 32, 33, 70}[next(10)])
	switch next(20) {
	case 0:
		return s[:next(28)]
	case 1:
		i := next(28)
		return s[:i] + string([]byte{s[i] ^ 1}) + s[i+1:]
	}
	return s
}

// configs are configurations with each kind of ranks and backend, and with
// meters that are used up at once, in part, or not at all.
func configs() []Conf {
	var l []Conf
	for rank := api.RankSTFQ; rank <= api.RankSRS; rank++ {
		for back := api.BackHeap; back <= api.BackQueues; back++ {
			for _, m := range [][3]uint64{{0, 0, 0}, {0, 50, 50}, {1, 60, 40}, {3, 0, 100}, {3, 100, 0}, {20, 200, 200}, {1, 20, 30}, {most, most, most}} {
				c := config()
				c.Shaper.Rank, c.Shaper.Back, c.Shaper.Share = rank, back, len(l)%3
				c.Rate, c.Near, c.Far, c.Yellow = m[0], m[1], m[2], uint8(len(l)*5%64)
				l = append(l, c)
			}
		}
	}
	return l
}

// 36.2, 36.3: long rows of steps, against the model.
func TestLong(t *testing.T) {
	seen := make(map[api.Errno]int)
	for i, c := range configs() {
		for seed := range uint64(4) {
			next := random(seed + uint64(i)*100)
			x := newPair(t, c)
			for range 700 {
				switch next(10) {
				case 0, 1, 2, 3, 4:
					seen[x.arrive(someDatagram(next))]++
				case 5, 6, 7:
					seen[x.leave()]++
				case 8:
					x.tick(uint64(next(8)))
				case 9:
					if next(50) == 0 {
						x.tick([]uint64{most, most / 2, 1 << 40, 1000}[next(4)])
					}
				}
			}
		}
	}
	for _, err := range []api.Errno{
		api.OK, api.ErrShort, api.ErrForm, api.ErrSum, api.ErrNone, api.ErrDrop, api.ErrLen, api.ErrFlow, api.ErrPackets, api.ErrBytes, api.ErrOwn, api.ErrShare, api.ErrEmpty, api.ErrNotYet,
	} {
		if seen[err] < 20 {
			t.Errorf("the error %d was seen %d times", err, seen[err])
		}
	}
}

// 36.2, 36.3: all short rows of steps, against the model.
func TestAllShort(t *testing.T) {
	c := config()
	c.Shaper.Packets, c.Shaper.Burst, c.Shaper.Rate = 2, 60, 20
	c.Rate, c.Near, c.Far = 10, 40, 30
	steps := []func(x pair){
		func(x pair) { x.arrive(datagram(53, 2, 28)) },
		func(x pair) { x.arrive(datagram(7, 9, 40)) },
		func(x pair) { x.arrive(datagram(200, 9, 30)) },
		func(x pair) { x.leave() },
		func(x pair) { x.tick(1) },
	}
	for row := range 5 * 5 * 5 * 5 * 5 * 5 {
		x := newPair(t, c)
		for range 6 {
			steps[row%5](x)
			row /= 5
		}
	}
}
