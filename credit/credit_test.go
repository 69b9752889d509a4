package credit

import (
	"math"
	"math/big"
	"testing"

	"pacemaker/api"
)

const (
	most  = api.MaxU64
	great = 1 << 20  // the greatest Idle, Send and High
	least = -1 << 40 // the least Have
)

// parts are values of Idle, Send and High, with whether they are allowed.
func parts() map[int64]bool {
	return map[int64]bool{
		math.MinInt64: false, -1 << 40: false, -great: false, -1: false, 0: false, great + 1: false, 1 << 21: false, 1 << 32: false, 1<<32 + 1: false, math.MaxInt64: false,
		1: true, 2: true, 1000: true, great - 1: true, great: true,
	}
}

// 23.1: Idle, Send and High of 0, 1, 2^20, one more and negative.
func TestNew(t *testing.T) {
	for idle, one := range parts() {
		for send, two := range parts() {
			for high, three := range parts() {
				want, wrong := Class{idle, send, high, 0}, api.OK
				if !one || !two || !three {
					want, wrong = Class{}, api.ErrArg
				}
				if c, err := New(idle, send, high); c != want || err != wrong {
					t.Errorf("New(%d, %d, %d) is %v, %d", idle, send, high, c, err)
				}
				if err := Check(Class{idle, send, high, 0}); err != wrong {
					t.Errorf("Check(%d, %d, %d, 0) is %d", idle, send, high, err)
				}
			}
		}
	}
}

// 23.1: Have of -2^40, one less, High and one more.
func TestCheck(t *testing.T) {
	for _, high := range []int64{1, 10, great} {
		for have, want := range map[int64]api.Errno{
			least: api.OK, least + 1: api.OK, -great: api.OK, -1: api.OK, 0: api.OK, 1: api.OK, high - 1: api.OK, high: api.OK,
			least - 1: api.ErrArg, math.MinInt64: api.ErrArg, high + 1: api.ErrArg, great + 1: api.ErrArg, 1 << 40: api.ErrArg, math.MaxInt64: api.ErrArg,
		} {
			if err := Check(Class{1, 1, high, have}); err != want {
				t.Errorf("Check is %d with a High of %d and a Have of %d", err, high, have)
			}
		}
	}
}

// 23.1: what the functions return for a class that is not valid.
func TestNotValid(t *testing.T) {
	for _, c := range []Class{{}, {0, 3, 10, 5}, {2, 0, 10, 5}, {2, 3, 0, 0}, {2, 3, 0, -5}, {-1, 3, 10, 5}, {2, -1, 10, 5}, {2, 3, -1, -5}, {great + 1, 3, 10, 5}, {2, great + 1, 10, 5}, {2, 3, great + 1, 5}, {2, 3, 10, 11}, {2, 3, 10, least - 1}, {2, 3, 10, math.MinInt64}, {2, 3, 10, math.MaxInt64}, {math.MinInt64, math.MinInt64, math.MinInt64, math.MinInt64}, {math.MaxInt64, math.MaxInt64, math.MaxInt64, math.MaxInt64}} {
		for _, n := range []uint64{0, 1, 65535, 65536, 1 << 63, most} {
			for _, waits := range []bool{false, true} {
				if got := Tick(c, n, waits); got != (Class{}) {
					t.Errorf("Tick(%v, %d, %t) is %v", c, n, waits, got)
				}
			}
			if got, ok := Sent(c, n); got != (Class{}) || ok {
				t.Errorf("Sent(%v, %d) is %v, %t", c, n, got, ok)
			}
		}
		if May(c) {
			t.Errorf("May(%v) is true", c)
		}
		if ticks := Wait(c); ticks != 0 {
			t.Errorf("Wait(%v) is %d", c, ticks)
		}
	}
}

// after does what Tick should, in exact numbers.
func after(c Class, ticks uint64, waits bool) Class {
	have := new(big.Int).Mul(big.NewInt(c.Idle), new(big.Int).SetUint64(ticks))
	have.Add(have, big.NewInt(c.Have))
	limit := int64(0)
	if waits {
		limit = c.High
	}
	switch {
	case !waits && c.Have >= 0:
		c.Have = 0
	case have.Cmp(big.NewInt(limit)) > 0:
		c.Have = limit
	default:
		c.Have = have.Int64()
	}
	return c
}

// tick does ticks, and tells whether they do what they should.
func tick(t *testing.T, c Class, ticks uint64, waits bool) Class {
	t.Helper()
	was := c
	got := Tick(c, ticks, waits)
	if want := after(c, ticks, waits); got != want || c != was {
		t.Fatalf("Tick(%v, %d, %t) is %v, not %v", was, ticks, waits, got, want)
	}
	if got.Have > got.High || Check(got) != api.OK { // 23.4
		t.Fatalf("Tick(%v, %d, %t) is %v", was, ticks, waits, got)
	}
	return got
}

// send sends a packet, and tells whether that does what it should.
func send(t *testing.T, c Class, n uint64) (Class, bool) {
	t.Helper()
	was, want := c, c
	is := c.Have >= 0 && n <= 65535
	if is {
		want.Have -= c.Send * int64(n)
	}
	if may := May(c); may != (c.Have >= 0) {
		t.Fatalf("May(%v) is %t", c, may)
	}
	got, ok := Sent(c, n)
	if got != want || ok != is || c != was {
		t.Fatalf("Sent(%v, %d) is %v, %t, not %v, %t", was, n, got, ok, want, is)
	}
	if Check(got) != api.OK { // 23.4
		t.Fatalf("Sent(%v, %d) is %v", was, n, got)
	}
	return got, ok
}

// haves are values of Have at which something changes.
func haves(c Class) []int64 {
	return []int64{least, least + 1, -great * 65535, -7*c.Idle - 1, -7 * c.Idle, -7*c.Idle + 1, -c.Idle - 1, -c.Idle, -c.Idle + 1, -2, -1, 0, 1, c.High - c.Idle - 1, c.High - c.Idle, c.High - c.Idle + 1, c.High - 1, c.High}
}

// valid are classes that are allowed.
func valid() []Class {
	var l []Class
	for _, idle := range []int64{1, 2, 3, 1000, great - 1, great} {
		for _, send := range []int64{1, 3, great} {
			for _, high := range []int64{1, 2, 10, 1000, great} {
				for _, have := range haves(Class{idle, send, high, 0}) {
					if c := (Class{idle, send, high, have}); have <= high {
						l = append(l, c)
					}
				}
			}
		}
	}
	return l
}

// 23.2: Tick by 0, 1 and 2^64 - 1, waiting and not, with a Have below nought, of
// 0 and above, and where it comes to just 0 and just High.
func TestTick(t *testing.T) {
	for _, x := range []struct {
		have  int64
		ticks uint64
		waits bool
		want  int64
	}{
		{-9, 0, true, -9}, {-9, 1, true, -7}, {-9, 4, true, -1}, {-9, 5, true, 1}, {-9, 9, true, 9}, {-9, 10, true, 10}, {-9, 11, true, 10}, {-9, most, true, 10},
		{-8, 4, true, 0}, {-8, 9, true, 10}, {-8, 8, true, 8}, {0, 0, true, 0}, {0, 1, true, 2}, {0, 4, true, 8}, {0, 5, true, 10}, {0, 6, true, 10}, {0, most, true, 10},
		{7, 0, true, 7}, {7, 1, true, 9}, {7, 2, true, 10}, {9, 1, true, 10}, {10, 0, true, 10}, {10, 1, true, 10}, {10, most, true, 10}, {least, 1 << 39, true, 0}, {least, 1<<39 - 1, true, -2}, {least, 1<<39 + 4, true, 8}, {least, 1<<39 + 5, true, 10}, {least, most, true, 10},
		{-9, 0, false, -9}, {-9, 1, false, -7}, {-9, 4, false, -1}, {-9, 5, false, 0}, {-9, 6, false, 0}, {-9, 10, false, 0}, {-9, most, false, 0},
		{-8, 3, false, -2}, {-8, 4, false, 0}, {-8, 5, false, 0}, {-1, 0, false, -1}, {-1, 1, false, 0}, {0, 0, false, 0}, {0, 1, false, 0}, {0, most, false, 0},
		{7, 0, false, 0}, {7, 1, false, 0}, {7, most, false, 0}, {10, 0, false, 0}, {1, 0, false, 0}, {least, 0, false, least}, {least, 1<<39 - 1, false, -2}, {least, 1 << 39, false, 0}, {least, most, false, 0},
		// Products that would wrap round, to 0 and to others.
		{-9, 1 << 63, true, 10}, {-9, 1 << 62, true, 10}, {-9, 1<<63 + 1, true, 10}, {-9, 1 << 63, false, 0}, {-9, 1<<63 + 1, false, 0}, {-9, 1<<63 - 1, false, 0}, {-9, 1 << 62, false, 0},
	} {
		c := Class{2, 3, 10, x.have}
		if got := tick(t, c, x.ticks, x.waits); got != (Class{2, 3, 10, x.want}) {
			t.Errorf("Tick(%v, %d, %t) is %v", c, x.ticks, x.waits, got)
		}
	}
}

// 23.2: all classes that differ somewhere.
func TestTickAll(t *testing.T) {
	for _, c := range valid() {
		just := uint64((c.High - c.Have) / c.Idle)
		for _, n := range []uint64{0, 1, 2, 5, 6, 7, 8, just - 1, just, just + 1, 1 << 32, 1 << 40, 1 << 43, 1 << 44, 1<<63 - 1, 1 << 63, most - 1, most} {
			tick(t, c, n, true)
			tick(t, c, n, false)
		}
	}
	for idle := range int64(4) {
		for high := range int64(6) {
			for have := int64(-9); have <= high+1; have++ {
				for n := range uint64(12) {
					tick(t, Class{idle + 1, 1, high + 1, have}, n, true)
					tick(t, Class{idle + 1, 1, high + 1, have}, n, false)
				}
			}
		}
	}
}

// 23.2: several ticks have the same effect as one for their sum.
func TestTicksTogether(t *testing.T) {
	for _, c := range valid() {
		for _, x := range []uint64{0, 1, 2, 7, 1 << 20, 1 << 41, 1 << 62} {
			for _, y := range []uint64{0, 1, 3, 1 << 19, 1 << 40, 1 << 63} {
				for _, waits := range []bool{false, true} {
					if got, want := Tick(Tick(c, x, waits), y, waits), Tick(c, x+y, waits); got != want {
						t.Errorf("after %d and %d ticks %v is %v, not %v", x, y, c, got, want)
					}
				}
			}
		}
	}
}

// 23.3: May at -1 and 0.
func TestMay(t *testing.T) {
	for have, want := range map[int64]bool{least: false, -9: false, -1: false, 0: true, 1: true, 9: true, 10: true} {
		if may := May(Class{2, 3, 10, have}); may != want {
			t.Errorf("May is %t with a Have of %d", may, have)
		}
	}
}

// 23.3: Sent of 0 bytes, of 65535 and of one more, and while it may not send.
func TestSent(t *testing.T) {
	for _, x := range []struct {
		have int64
		n    uint64
		want int64
		ok   bool
	}{
		{0, 0, 0, true}, {0, 1, -3, true}, {0, 2, -6, true}, {0, 65534, -196602, true}, {0, 65535, -196605, true}, {0, 65536, 0, false}, {0, 1 << 16, 0, false}, {0, 1 << 63, 0, false}, {0, most, 0, false},
		{7, 0, 7, true}, {7, 2, 1, true}, {7, 3, -2, true}, {10, 65535, -196595, true}, {10, 65536, 10, false}, {9, 3, 0, true},
		{-1, 0, -1, false}, {-1, 1, -1, false}, {-1, 65535, -1, false}, {-1, 65536, -1, false}, {least, 0, least, false}, {least, 65535, least, false}, {-9, most, -9, false},
	} {
		c := Class{2, 3, 10, x.have}
		got, ok := send(t, c, x.n)
		if got != (Class{2, 3, 10, x.want}) || ok != x.ok {
			t.Errorf("Sent(%v, %d) is %v, %t", c, x.n, got, ok)
		}
	}
	for _, c := range valid() {
		for _, n := range []uint64{0, 1, 2, 1500, 65534, 65535, 65536, 65537, 1 << 32, most} {
			send(t, c, n)
		}
	}
}

// 23.3, 23.4: no class that may send gets a Have that would be less than -2^40.
func TestLeast(t *testing.T) {
	c, _ := New(1, great, 1)
	c, ok := send(t, c, 65535)
	if want := int64(-great * 65535); c.Have != want || !ok || want < least || Check(c) != api.OK {
		t.Errorf("Sent is %v, %t", c, ok)
	}
	if c, ok := send(t, c, 1); ok || c.Have != -great*65535 {
		t.Errorf("Sent is %v, %t", c, ok)
	}
}

// 23.3: Wait for a Have of 0, of -1, of just a multiple of Idle and of one more
// below nought.
func TestWait(t *testing.T) {
	for _, x := range []struct {
		idle, have int64
		want       uint64
	}{
		{1, 0, 0}, {1, 1, 0}, {1, 10, 0}, {1, -1, 1}, {1, -2, 2}, {1, least, 1 << 40}, {2, 0, 0}, {2, 5, 0}, {2, -1, 1}, {2, -2, 1}, {2, -3, 2}, {2, -8, 4}, {2, -9, 5}, {2, -10, 5},
		{3, -3, 1}, {3, -4, 2}, {3, -5, 2}, {3, -6, 2}, {3, -7, 3}, {3, -21, 7}, {3, -22, 8}, {3, -20, 7}, {great, -1, 1}, {great, -great, 1}, {great, -great - 1, 2}, {great, least, great}, {great, least + 1, great}, {great, -great * 65535, 65535}, {1, -great * 65535, great * 65535},
		{great - 1, least, great + 2}, {3, least, 366503875926}, {2, least, 1 << 39}, {2, least + 1, 1 << 39}, {2, least + 2, 1<<39 - 1},
	} {
		if ticks := Wait(Class{x.idle, 3, 10, x.have}); ticks != x.want {
			t.Errorf("Wait is %d with an Idle of %d and a Have of %d, not %d", ticks, x.idle, x.have, x.want)
		}
	}
}

// 23.3: after as many ticks as Wait returns the class may send, and after one
// less it may not, whether something waits or not.
func TestWaitAgainstTick(t *testing.T) {
	for _, c := range valid() {
		ticks := Wait(c)
		if (ticks == 0) != May(c) {
			t.Errorf("Wait(%v) is %d, and May is %t", c, ticks, May(c))
		}
		for _, waits := range []bool{false, true} {
			if !May(tick(t, c, ticks, waits)) {
				t.Errorf("after %d ticks %v may not send", ticks, c)
			}
			if ticks > 0 && May(tick(t, c, ticks-1, waits)) {
				t.Errorf("after %d ticks, one less, %v may send", ticks-1, c)
			}
		}
	}
}

// 23.3, the chapter's example.
func TestExample(t *testing.T) {
	c, err := New(2, 1, 10)
	if err != api.OK || !May(c) || Wait(c) != 0 {
		t.Fatalf("New is %v, %d", c, err)
	}
	c, ok := send(t, c, 9)
	if c != (Class{2, 1, 10, -9}) || !ok || Wait(c) != 5 || May(c) {
		t.Errorf("Sent is %v, %t, Wait %d", c, ok, Wait(c))
	}
	if c := tick(t, c, 4, true); c.Have != -1 || May(c) {
		t.Errorf("Tick is %v", c)
	}
	if c := tick(t, c, 5, true); c.Have != 1 || !May(c) {
		t.Errorf("Tick is %v", c)
	}
}

// row keeps, for each time so far, how many ticks had gone by, what had been
// sent and the credit.
type row struct {
	ticks uint64
	cost  int64
}

// check tells whether, between the last time and each one before it, the bytes
// that were sent cost at most High, what the class earned in between, and one
// packet of at most n bytes.
func check(t *testing.T, c Class, n int64, l []row) {
	t.Helper()
	last := l[len(l)-1]
	for _, r := range l {
		allowed := c.High + c.Idle*int64(last.ticks-r.ticks) + c.Send*n
		if sent := last.cost - r.cost; sent > allowed {
			t.Fatalf("%v sends bytes that cost %d in %d ticks, more than %d", c, sent, last.ticks-r.ticks, allowed)
		}
	}
	if c.Have < -c.Send*n || c.Have > c.High { // 23.4
		t.Fatalf("%v, whose packets have at most %d bytes", c, n)
	}
}

// 23.4, 23.5: all short rows of ticks and packets.
func TestShortRows(t *testing.T) {
	for _, idle := range []int64{1, 2, 5} {
		for _, cost := range []int64{1, 3} {
			for _, high := range []int64{1, 2, 7} {
				c, _ := New(idle, cost, high)
				try(t, c, []row{{}}, 5)
			}
		}
	}
}

// try does each of a few things, and each of them again after each.
func try(t *testing.T, c Class, l []row, depth int) {
	const n = 4
	check(t, c, n, l)
	if depth == 0 {
		return
	}
	last := l[len(l)-1]
	for _, ticks := range []uint64{1, 3} {
		next := append(l[:len(l):len(l)], row{last.ticks + ticks, last.cost})
		try(t, tick(t, c, ticks, true), next, depth-1)
		try(t, tick(t, c, ticks, false), next, depth-1)
	}
	for _, bytes := range []uint64{0, 1, n} {
		if after, ok := send(t, c, bytes); ok {
			try(t, after, append(l[:len(l):len(l)], row{last.ticks, last.cost + c.Send*int64(bytes)}), depth-1)
		}
	}
}

// 23.4, 23.5: long rows by chance.
func TestLongRows(t *testing.T) {
	for _, x := range []struct{ idle, send, high, n int64 }{{1, 1, 1, 1}, {2, 1, 10, 9}, {3, 7, 100, 20}, {50, 3, 10, 5}, {great, great, great, 65535}, {1, great, 1, 1}, {great, 1, great, 65535}, {1000, 1, 1, 1500}} {
		c, _ := New(x.idle, x.send, x.high)
		l := []row{{}}
		seed := uint64(x.idle + x.n)
		packets := 0
		for range 600 {
			seed = seed*6364136223846793005 + 1442695040888963407
			last := l[len(l)-1]
			if seed>>40%3 == 0 {
				ticks := min(seed>>60, Wait(c)+seed>>62)
				if seed>>50%4 == 0 {
					ticks += Wait(c)
				}
				c = tick(t, c, ticks, seed>>45%4 > 0)
				l = append(l, row{last.ticks + ticks, last.cost})
			} else if n := seed >> 33 % uint64(x.n+1); May(c) {
				var ok bool
				if c, ok = send(t, c, n); ok {
					packets++
				}
				l = append(l, row{last.ticks, last.cost + x.send*int64(n)})
			}
			check(t, c, x.n, l)
		}
		if packets < 50 {
			t.Errorf("only %d packets are sent with %v", packets, c)
		}
	}
}

// 23.5: a class that always has a packet sends what it earns, and one packet
// more at most.
func TestRateIsReached(t *testing.T) {
	for _, n := range []uint64{1, 2, 9, 1500} {
		c, _ := New(3, 2, 10)
		sent := int64(0)
		for ticks := range int64(5000) {
			for May(c) {
				c, _ = send(t, c, n)
				sent += 2 * int64(n)
			}
			if sent != 3*ticks-c.Have || sent > 3*ticks+2*int64(n) || sent < 3*ticks {
				t.Fatalf("after %d ticks bytes are sent that cost %d", ticks, sent)
			}
			c = tick(t, c, 1, true)
		}
	}
}

// P2: a class can be kept, and gone on with twice.
func TestClassIsAValue(t *testing.T) {
	c, _ := New(3, 2, 10)
	for i := range uint64(300) {
		a, x := Sent(Tick(c, i%5, i%7 > 0), i%11)
		Tick(c, most, true)
		Sent(c, 9)
		b, y := Sent(Tick(c, i%5, i%7 > 0), i%11)
		if a != b || x != y {
			t.Fatalf("the same calls are %v, %t and then %v, %t", a, x, b, y)
		}
		c = b
	}
}
