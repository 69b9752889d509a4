package port

import (
	"fmt"
	"slices"
	"testing"

	"pacemaker/api"
	"pacemaker/header"
)

// came is what a datagram had when it came, but for its TTL and its DSCP.
func came(s string) string {
	h, body, err := header.Take(s)
	if err != api.OK {
		panic(err)
	}
	h.TTL, h.DSCP = 0, 0
	return fmt.Sprint(h, body)
}

// checkLeft tells whether a datagram is one that came, with a TTL that is one
// less and nothing else changed but, possibly, its DSCP, which is then that of
// yellow ones, and removes it from those that came.
func checkLeft(t *testing.T, s string, l []string, yellow uint8) []string {
	t.Helper()
	h, _, err := header.Take(s)
	if err != api.OK {
		t.Fatalf("what left is no datagram: %q, %d", s, err)
	}
	i := slices.IndexFunc(l, func(x string) bool {
		before, _, _ := header.Take(x)
		return came(x) == came(s) && h.TTL == before.TTL-1 && (h.DSCP == before.DSCP || h.DSCP == yellow)
	})
	if i < 0 {
		t.Fatalf("what left did not come, or left before: %q", s)
	}
	return slices.Delete(l, i, i+1)
}

// 36.4: what leaves has arrived, once.
func TestWhatLeaves(t *testing.T) {
	for i, c := range configs() {
		next := random(uint64(i) + 1000)
		p := made(t, c)
		var l []string
		for step := range 1500 {
			switch {
			case step < 1300 && next(2) == 0:
				s := someDatagram(next)
				if _, err := p.Arrive(s); err == api.OK {
					l = append(l, s)
				}
			case next(3) == 0:
				p.Tick(uint64(next(8)))
			default:
				if s, err := p.Leave(); err == api.OK {
					l = checkLeft(t, s, l, c.Yellow)
				}
			}
			if n := p.Stats().Packets; n != len(l) {
				t.Fatalf("%d packets wait, not %d", n, len(l))
			}
		}
		for len(l) > 0 {
			p.Tick(6)
			s, err := p.Leave()
			if err != api.OK {
				t.Fatalf("%d datagrams do not leave: %d", len(l), err)
			}
			l = checkLeft(t, s, l, c.Yellow)
		}
		checkLeave(t, p, "", api.ErrEmpty)
	}
}

// ordered are the flows of a port, and the datagrams of each in the order in
// which they came.
type ordered map[uint16][]string

// checkNext tells whether a datagram is the first one of its flow.
func (o ordered) checkNext(t *testing.T, s string) {
	t.Helper()
	h, _, err := header.Take(s)
	if l := o[h.DstPort]; err != api.OK || len(l) == 0 || s != l[0] {
		t.Fatalf("what left is not the first one of its flow: %q", s)
	}
	o[h.DstPort] = o[h.DstPort][1:]
}

// 16.3, 36.3: by virtual start times and by deadlines, the datagrams of a flow
// leave a heap or a calendar in the order in which they came.
func TestFlowOrder(t *testing.T) {
	for _, rank := range []int{api.RankSTFQ, api.RankEDF} {
		for _, back := range []int{api.BackHeap, api.BackCalendar} {
			for seed := range uint64(20) {
				next := random(seed)
				c := wide(rank, back)
				c.Shaper.Levels = 1 + int(seed%3)
				p := made(t, c)
				o := make(ordered)
				left := 0
				for i := range 2000 {
					if next(5) > 1 {
						h := api.Header{TTL: uint8(2 + next(200)), ID: uint16(i), DstPort: uint16(next(5))}
						s := put(h, 28+next(1000))
						if _, err := p.Arrive(s); err != api.OK {
							t.Fatalf("Arrive is %d", err)
						}
						o[h.DstPort] = append(o[h.DstPort], sent(s, -1))
					}
					if s, err := p.Leave(); err == api.OK && next(2) == 0 {
						o.checkNext(t, s)
						left++
					} else if err == api.OK {
						o.checkNext(t, s)
						p.Tick(uint64(next(20)))
						left++
					}
					if seed == 7 && i == 1000 {
						p.Tick(most - 50) // later deadlines are capped
					}
				}
				for range 2000 {
					s, err := p.Leave()
					if err != api.OK {
						break
					}
					o.checkNext(t, s)
					left++
				}
				for to, l := range o {
					if len(l) > 0 {
						t.Fatalf("%d datagrams of flow %d have not left", len(l), to)
					}
				}
				if left != int(p.Number()) || left < 900 {
					t.Fatalf("%d left, of %d", left, p.Number())
				}
			}
		}
	}
}

// 16.3, 36.3: by sizes, the datagrams of a flow leave in the other order, as
// long as ranks fall.
func TestSizes(t *testing.T) {
	p := made(t, wide(api.RankSRS, api.BackHeap))
	var l []string
	for i := range 20 {
		s := put(api.Header{TTL: 9, ID: uint16(i), DstPort: 4}, 40)
		checkArrive(t, p, s, uint32(i+1), api.OK)
		l = append(l, sent(s, -1))
	}
	for _, s := range slices.Backward(l) {
		checkLeave(t, p, s, api.OK)
	}
}
