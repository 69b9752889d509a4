package header

import (
	"encoding/binary"
	"math"
	"strings"
	"testing"

	"pacemaker/api"
)

// random returns a function whose results are any numbers.
func random(seed uint64) func() uint64 {
	return func() uint64 {
		seed = seed*6364136223846793005 + 1442695040888963407
		return seed>>32 ^ seed<<32
	}
}

// total returns the sum of the words of a datagram's first twenty bytes, but
// for the checksum.
func total(s string) int {
	n := 0
	for i := 0; i < 20; i += 2 {
		if i != 10 {
			n += int(s[i])<<8 + int(s[i+1])
		}
	}
	return n
}

// inet returns the checksum of a datagram: what the sum of its words lacks to a
// multiple of 65535.
func inet(s string) uint16 {
	// Not all words are 0, so a multiple of 65535 counts as 65535.
	return uint16(65535 - ((total(s)-1)%65535 + 1))
}

// with returns s with another byte at i.
func with(s string, i int, b byte) string {
	return s[:i] + string([]byte{b}) + s[i+1:]
}

// withHalf returns s with another number of two bytes at i.
func withHalf(s string, i int, n uint16) string {
	return s[:i] + string([]byte{byte(n >> 8), byte(n)}) + s[i+2:]
}

// sealed returns s with the checksum that its first twenty bytes have.
func sealed(s string) string {
	return withHalf(s, 10, inet(s))
}

// datagram returns the datagram with a header and a body, by the chapter's
// table.
func datagram(h api.Header, body string) string {
	b := make([]byte, 28)
	b[0] = 69
	b[1] = h.DSCP * 4
	binary.BigEndian.PutUint16(b[2:], uint16(len(body)+28))
	binary.BigEndian.PutUint16(b[4:], h.ID)
	b[8] = h.TTL
	b[9] = 17
	binary.BigEndian.PutUint32(b[12:], h.Src)
	binary.BigEndian.PutUint32(b[16:], h.Dst)
	binary.BigEndian.PutUint16(b[20:], h.SrcPort)
	binary.BigEndian.PutUint16(b[22:], h.DstPort)
	binary.BigEndian.PutUint16(b[24:], uint16(len(body)+8))
	return sealed(string(b)) + body
}

// usual is a header without fields at their ends.
func usual() api.Header {
	return api.Header{DSCP: 10, ID: 0x1234, TTL: 64, Src: 10<<24 + 1, Dst: 10<<24 + 2, SrcPort: 1000, DstPort: 53}
}

// headers are those with one field of the greatest value, or of 0, and others.
func headers() []api.Header {
	top := api.Header{DSCP: 63, ID: math.MaxUint16, TTL: 255, Src: math.MaxUint32, Dst: math.MaxUint32, SrcPort: math.MaxUint16, DstPort: math.MaxUint16}
	l := []api.Header{
		{}, usual(), top, {DSCP: 63}, {DSCP: 1}, {DSCP: 32}, {ID: 1}, {ID: 0x0102}, {ID: math.MaxUint16}, {TTL: 1}, {TTL: 2}, {TTL: 255},
		{Src: 1}, {Src: 1 << 31}, {Src: 0x01020304}, {Src: math.MaxUint32}, {Dst: 1}, {Dst: 1 << 31}, {Dst: 0x01020304}, {Dst: math.MaxUint32},
		{SrcPort: 1}, {SrcPort: 0x0102}, {SrcPort: math.MaxUint16}, {DstPort: 1}, {DstPort: 0x0102}, {DstPort: math.MaxUint16},
	}
	for _, h := range l[:3] {
		for _, without := range []func(h *api.Header){
			func(h *api.Header) { h.DSCP = 0 },
			func(h *api.Header) { h.ID = 0 },
			func(h *api.Header) { h.TTL = 0 },
			func(h *api.Header) { h.Src = 0 },
			func(h *api.Header) { h.Dst = 0 },
			func(h *api.Header) { h.SrcPort = 0 },
			func(h *api.Header) { h.DstPort = 0 },
		} {
			without(&h)
			l = append(l, h)
		}
	}
	next := random(33)
	for range 200 {
		a, b := next(), next()
		l = append(l, api.Header{
			DSCP: uint8(a) % 64, TTL: uint8(a >> 8), ID: uint16(a >> 16), SrcPort: uint16(a >> 32), DstPort: uint16(a >> 48),
			Src: uint32(b), Dst: uint32(b >> 32),
		})
	}
	return l
}

// bodies are some of the usual lengths, and of those at the ends.
func bodies() []string {
	return []string{
		"", "a", "\x00", "hi", "\xff\xff\xff", strings.Repeat("abc", 80), strings.Repeat("\x00", 228), strings.Repeat("x", 65507), strings.Repeat("\xff", 65506),
	}
}

// checkTake tells whether Take returns a header and a body, or an error.
func checkTake(t *testing.T, s string, h api.Header, body string, err api.Errno) {
	t.Helper()
	if gotH, got, e := Take(s); gotH != h || got != body || e != err {
		t.Fatalf("Take(%.40q of %d) is %v, %d bytes, %d, not %v, %d bytes, %d", s, len(s), gotH, len(got), e, h, len(body), err)
	}
}

// checkPut tells whether Put returns the datagram, and Take takes it.
func checkPut(t *testing.T, h api.Header, body string) string {
	t.Helper()
	want := datagram(h, body)
	s, err := Put(h, body)
	if s != want || err != api.OK {
		t.Fatalf("Put(%v, %d bytes) is %.40q, %d, not %.40q", h, len(body), s, err, want)
	}
	checkTake(t, s, h, body, api.OK)
	return s
}

// refused tells whether no call takes s, and which error comes.
func refused(t *testing.T, s string, err api.Errno) {
	t.Helper()
	checkTake(t, s, api.Header{}, "", err)
	if got, e := Mark(s, 63); got != "" || e != err {
		t.Fatalf("Mark(%.40q) is %.40q, %d, not %d", s, got, e, err)
	}
	if got, e := Mark(s, 64); got != "" || e != api.ErrArg {
		t.Fatalf("Mark(%.40q, 64) is %.40q, %d", s, got, e)
	}
	if got, e := Hop(s); got != "" || e != err {
		t.Fatalf("Hop(%.40q) is %.40q, %d, not %d", s, got, e, err)
	}
}

// refusedAnyway tells whether no call takes s, whatever its checksum is.
func refusedAnyway(t *testing.T, s string) {
	t.Helper()
	refused(t, s, api.ErrForm)
	refused(t, sealed(s), api.ErrForm)
	refused(t, withHalf(s, 10, inet(s)^1), api.ErrForm)
}

// 33.1, the chapter's example.
func TestExample(t *testing.T) {
	for _, h := range headers() {
		if s, err := Put(h, "hi"); err != api.OK || len(s) != 30 || s[2] != 0 || s[3] != 30 {
			t.Errorf("Put(%v) is %q, %d", h, s, err)
		}
	}
}

// 33.1: a datagram that is written out.
func TestWrittenOut(t *testing.T) {
	const s = "\x45\x28\x00\x1e\x12\x34\x00\x00\x40\x11\x54\x71\x0a\x00\x00\x01\x0a\x00\x00\x02\x03\xe8\x00\x35\x00\x0a\x00\x00hi"
	if got, err := Put(usual(), "hi"); got != s || err != api.OK {
		t.Errorf("Put is %q, %d", got, err)
	}
	checkTake(t, s, usual(), "hi", api.OK)
	// The sum of these words is 0x2079c without the checksum, and 0x079e in a ring.
	const known = "\x45\x00\x00\x73\x00\x00\x00\x00\x40\x11\xf8\x61\xc0\xa8\x00\x01\xc0\xa8\x00\xc7"
	h := api.Header{TTL: 64, Src: 192<<24 + 168<<16 + 1, Dst: 192<<24 + 168<<16 + 199}
	if got, err := Put(h, strings.Repeat("b", 87)); !strings.HasPrefix(got, known) || err != api.OK {
		t.Errorf("Put is %.40q, %d", got, err)
	}
}

// 33.1, 33.3
func TestPut(t *testing.T) {
	if Size != 28 || MaxBody != 65507 {
		t.Errorf("Size is %d, MaxBody is %d", Size, MaxBody)
	}
	for i, h := range headers() {
		for _, body := range bodies()[:4] {
			checkPut(t, h, body)
		}
		if i%10 == 0 {
			for _, body := range bodies() {
				checkPut(t, h, body)
			}
		}
	}
	for n := range 600 {
		checkPut(t, usual(), strings.Repeat("\xa5", n))
	}
	for n := 65000; n <= MaxBody; n += 39 {
		checkPut(t, usual(), strings.Repeat("\xa5", n))
	}
}

// 33.1
func TestPutErrors(t *testing.T) {
	long := strings.Repeat("x", 70000)
	for dscp := range 256 {
		for _, h := range []api.Header{{DSCP: uint8(dscp)}, {DSCP: uint8(dscp), ID: math.MaxUint16, TTL: 9}} {
			for _, n := range []int{0, 1, 65507, 65508, 65509, 65535, 65536, 65564, 70000} {
				want := api.OK
				switch {
				case dscp > 63:
					want = api.ErrArg
				case n > 65507:
					want = api.ErrLong
				}
				if s, err := Put(h, long[:n]); err != want || (s == "") != (err != api.OK) {
					t.Fatalf("Put(%v, %d bytes) is %d bytes, %d, not %d", h, n, len(s), err, want)
				}
			}
		}
	}
	if s, err := Put(usual(), strings.Repeat("x", 1<<20)); s != "" || err != api.ErrLong {
		t.Errorf("Put is %d bytes, %d", len(s), err)
	}
}

// 33.1: checksums of each value, those where a carry comes twice among them.
// (Not all words are 0, so no checksum is 65535.)
func TestSums(t *testing.T) {
	for _, h := range []api.Header{usual(), {Src: math.MaxUint32, Dst: math.MaxUint32, TTL: 255}} {
		seen := make(map[string]bool)
		twice := false
		for id := range 65536 {
			h.ID = uint16(id)
			s := checkPut(t, h, "hi")
			seen[s[10:12]] = true
			n := total(s)
			twice = twice || n%65536+n/65536 > 65535
		}
		if len(seen) != 65535 || !seen["\x00\x00"] || seen["\xff\xff"] {
			t.Errorf("%d checksums, %t, %t", len(seen), seen["\x00\x00"], seen["\xff\xff"])
		}
		if twice != (h.Src == math.MaxUint32) {
			t.Errorf("a carry comes twice: %t", twice)
		}
	}
}

// withSum returns a header for whose datagram the checksum is want.
func withSum(t *testing.T, want uint16, body string) api.Header {
	t.Helper()
	h := usual()
	for id := range 65536 {
		h.ID = uint16(id)
		if inet(datagram(h, body)) == want {
			return h
		}
	}
	t.Fatalf("no checksum %d", want)
	return h
}

// 33.1: every other checksum differs, and each bit of it counts.
func TestOtherSums(t *testing.T) {
	next := random(5)
	for _, sum := range []uint16{0, 1, 255, 256, 0x7fff, 0x8000, 65533, 65534} {
		h := withSum(t, sum, "hi")
		s := checkPut(t, h, "hi")
		for bit := range 16 {
			refused(t, withHalf(s, 10, sum^1<<bit), api.ErrSum)
		}
		for _, other := range []uint16{0, 1, sum + 1, sum - 1, ^sum, sum<<8 | sum>>8, 65534, 65535, uint16(next()), uint16(next())} {
			if other != sum {
				refused(t, withHalf(s, 10, other), api.ErrSum)
			}
		}
	}
	s := datagram(usual(), "hi")
	for sum := range 65536 {
		if uint16(sum) != inet(s) {
			refused(t, withHalf(s, 10, uint16(sum)), api.ErrSum)
		}
	}
}

// 33.1: fewer than 28 bytes are too few, whatever they are.
func TestShort(t *testing.T) {
	for _, s := range []string{datagram(usual(), "hi"), datagram(usual(), ""), datagram(api.Header{}, ""), strings.Repeat("\x00", 28), strings.Repeat("\x45", 28)} {
		for n := range 28 {
			refused(t, s[:n], api.ErrShort)
		}
	}
	refused(t, strings.Repeat("\x00", 28), api.ErrForm)
	refused(t, strings.Repeat("\xff", 28), api.ErrForm)
	refused(t, strings.Repeat("x", 100), api.ErrForm)
	checkTake(t, datagram(usual(), ""), usual(), "", api.OK)
}

// 33.1: a byte that is missing or one too many, at the end or before it.
func TestLengths(t *testing.T) {
	for _, body := range bodies() {
		s := datagram(usual(), body)
		if body != "" {
			refusedAnyway(t, s[:len(s)-1])
			refusedAnyway(t, s[:28])
		}
		for _, more := range []string{"\x00", "x", "\xff", "xx", s} {
			refusedAnyway(t, s+more)
		}
	}
	s := datagram(usual(), "hi")
	for n := range 65536 {
		if n != 30 {
			refused(t, withHalf(s, 2, uint16(n)), api.ErrForm)
			refused(t, sealed(withHalf(s, 2, uint16(n))), api.ErrForm)
		}
		if n != 10 {
			refused(t, withHalf(s, 24, uint16(n)), api.ErrForm)
		}
		// Lengths that fit each other, but not the body.
		if n != 2 {
			refusedAnyway(t, withHalf(withHalf(s, 2, uint16(n+28)), 24, uint16(n+8)))
		}
	}
}

// 33.1: a body that is too long, also if its lengths are right as far as two
// bytes can tell.
func TestLong(t *testing.T) {
	for _, n := range []int{65508, 65509, 65527, 65528, 65529, 65535, 65536, 65537, 65538, 65536 + 28, 2*65536 + 2, 3*65536 - 28} {
		s := datagram(usual(), "") + strings.Repeat("x", n)
		s = withHalf(withHalf(s, 2, uint16(n+28)), 24, uint16(n+8))
		refusedAnyway(t, s)
		refusedAnyway(t, withHalf(s, 24, 65535))
		refusedAnyway(t, withHalf(s, 2, 65535))
	}
}

// 33.1: each byte that is constant, and byte 1. The form is wrong, whether the
// checksum is right or not.
func TestConstants(t *testing.T) {
	for _, h := range []api.Header{usual(), {}, {DSCP: 63, TTL: 1}} {
		for _, body := range []string{"", "hi"} {
			s := datagram(h, body)
			for _, i := range []int{0, 6, 7, 9, 26, 27} {
				for b := range 256 {
					if byte(b) != s[i] {
						refusedAnyway(t, with(s, i, byte(b)))
					}
				}
			}
			for b := range 256 {
				other := with(s, 1, byte(b))
				if b%4 != 0 {
					refusedAnyway(t, other)
					continue
				}
				h := h
				h.DSCP = byte(b / 4)
				checkTake(t, sealed(other), h, body, api.OK)
				if other != s {
					refused(t, other, api.ErrSum)
				}
			}
		}
	}
}

// constants are the bytes of a datagram that tell nothing but its lengths.
const constants = "\x00\x02\x03\x06\x07\x09\x18\x19\x1a\x1b"

// 33.1: a datagram with one of its first twenty bytes changed is not taken; with
// another one changed, it is a datagram with other ports or another body, or it
// has the wrong form.
func TestChanged(t *testing.T) {
	for _, h := range []api.Header{usual(), {}, headers()[2], {TTL: 1}, withSum(t, 0, "hello"), withSum(t, 65534, "hello")} {
		s := datagram(h, "hello")
		for i := range s {
			for b := range 256 {
				changed := with(s, i, byte(b))
				switch {
				case changed == s:
				case strings.IndexByte(constants, byte(i)) >= 0 || i == 1 && b%4 != 0:
					refused(t, changed, api.ErrForm)
				case i < 20:
					refused(t, changed, api.ErrSum)
				default:
					h := h
					h.SrcPort = binary.BigEndian.Uint16([]byte(changed[20:]))
					h.DstPort = binary.BigEndian.Uint16([]byte(changed[22:]))
					checkTake(t, changed, h, changed[28:], api.OK)
				}
			}
		}
	}
}

// 33.3: what Take takes of strings that are nearly datagrams, Put returns.
func TestPutInvertsTake(t *testing.T) {
	next := random(9)
	l := headers()
	taken := 0
	for range 100000 {
		s := datagram(l[next()%uint64(len(l))], strings.Repeat("b", int(next()%4)))
		for range next() % 3 {
			s = with(s, int(next()%uint64(len(s))), byte(next()))
		}
		if next()%2 == 0 {
			s = sealed(s)
		}
		h, body, err := Take(s)
		if err != api.OK {
			refused(t, s, err)
			continue
		}
		taken++
		if got, err := Put(h, body); got != s || err != api.OK {
			t.Fatalf("Put of Take(%q) is %q, %d", s, got, err)
		}
	}
	if taken < 10000 || taken > 90000 {
		t.Errorf("%d were taken", taken)
	}
}

// P1, 33.1: any bytes.
func TestAnyBytes(t *testing.T) {
	next := random(11)
	for n := range 20000 {
		b := make([]byte, n%90)
		for i := range b {
			b[i] = byte(next() >> 8)
		}
		err := api.ErrForm
		if len(b) < 28 {
			err = api.ErrShort
		}
		refused(t, string(b), err)
	}
}

// 33.2, 33.4
func TestMark(t *testing.T) {
	for i, h := range headers() {
		for _, body := range []string{"", "hi", strings.Repeat("x", 100*(i%2))} {
			s := datagram(h, body)
			for dscp := range 256 {
				got, err := Mark(s, uint8(dscp))
				if dscp > 63 {
					if got != "" || err != api.ErrArg {
						t.Fatalf("Mark(%q, %d) is %q, %d", s, dscp, got, err)
					}
					continue
				}
				marked := h
				marked.DSCP = uint8(dscp)
				if got != datagram(marked, body) || err != api.OK {
					t.Fatalf("Mark(%q, %d) is %q, %d", s, dscp, got, err)
				}
			}
		}
	}
	long := strings.Repeat("x", 65507)
	marked := usual()
	marked.DSCP = 63
	if got, err := Mark(datagram(usual(), long), 63); got != datagram(marked, long) || err != api.OK {
		t.Errorf("Mark is %.40q, %d", got, err)
	}
}

// 33.2, 33.4
func TestHop(t *testing.T) {
	for i, h := range headers() {
		for ttl := range 256 {
			if i > 30 && ttl > 3 && ttl < 253 {
				continue
			}
			for _, body := range []string{"", "hi"} {
				h.TTL = uint8(ttl)
				got, err := Hop(datagram(h, body))
				if ttl < 2 {
					if got != "" || err != api.ErrDrop {
						t.Fatalf("Hop of TTL %d is %q, %d", ttl, got, err)
					}
					continue
				}
				went := h
				went.TTL = uint8(ttl - 1)
				if got != datagram(went, body) || err != api.OK {
					t.Fatalf("Hop of TTL %d is %q, %d", ttl, got, err)
				}
			}
		}
	}
	// What Take refuses is refused as it says, also where the TTL is too small.
	for ttl := range uint8(3) {
		s := datagram(api.Header{TTL: ttl}, "hi")
		refused(t, s[:27], api.ErrShort)
		refused(t, s+"x", api.ErrForm)
		refused(t, withHalf(s, 10, inet(s)+1), api.ErrSum)
	}
}

// 33.2, 33.4: Mark and Hop where checksums are, and become, 0 and 65534.
func TestSumsOfChanged(t *testing.T) {
	for sum := range uint16(1100) {
		// 1100 is more than what either of both can take from a checksum.
		for _, want := range []uint16{sum, 65534 - sum} {
			h := usual()
			h.ID = uint16(int(h.ID) + int(inet(datagram(h, ""))) - int(want))
			s := checkPut(t, h, "")
			went := h
			went.TTL--
			if got, err := Hop(s); got != datagram(went, "") || err != api.OK {
				t.Fatalf("Hop(%q) is %q, %d", s, got, err)
			}
			for _, dscp := range []uint8{0, 63} {
				marked := h
				marked.DSCP = dscp
				if got, err := Mark(s, dscp); got != datagram(marked, "") || err != api.OK {
					t.Fatalf("Mark(%q, %d) is %q, %d", s, dscp, got, err)
				}
			}
		}
	}
}

// 33.2: a datagram goes as many steps as its TTL lets it, and nothing else of it
// changes.
func TestManyHops(t *testing.T) {
	h := usual()
	h.TTL = 255
	s := datagram(h, "hi")
	for range 254 {
		next, err := Hop(s)
		if err != api.OK || next[:8] != s[:8] || next[8] != s[8]-1 || next[9] != s[9] || next[12:] != s[12:] {
			t.Fatalf("Hop(%q) is %q, %d", s, next, err)
		}
		s = next
	}
	if next, err := Hop(s); next != "" || err != api.ErrDrop {
		t.Errorf("the last Hop is %q, %d", next, err)
	}
}

// P2: no call leaves anything behind.
func TestAgain(t *testing.T) {
	s, other := datagram(usual(), "hi"), datagram(api.Header{TTL: 3, DSCP: 1}, "abc")
	for range 2 {
		checkPut(t, usual(), "hi")
		refused(t, s+"x", api.ErrForm)
		checkTake(t, other, api.Header{TTL: 3, DSCP: 1}, "abc", api.OK)
		Mark(other, 9)
		Hop(other)
		checkTake(t, s, usual(), "hi", api.OK)
		checkTake(t, other, api.Header{TTL: 3, DSCP: 1}, "abc", api.OK)
	}
}
