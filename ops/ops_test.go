package ops

import (
	"encoding/binary"
	"math"
	"slices"
	"strings"
	"testing"

	"pacemaker/api"
)

const (
	most = api.MaxU64
	last = math.MaxUint32 // the greatest Flow and ID
)

// tens are nine bytes of a Var, behind which a tenth one may stand.
var tens = strings.Repeat("\xff", 9)

func enqueue(flow, id uint32, n uint64) api.Op {
	return api.Op{Kind: api.OpEnqueue, Flow: flow, ID: id, Len: n}
}

func tick(n uint64) api.Op { return api.Op{Kind: api.OpTick, Ticks: n} }

func junk(n uint64) api.Op { return api.Op{Kind: api.OpJunk, Len: n} }

var (
	dequeue = api.Op{Kind: api.OpDequeue}
	stats   = api.Op{Kind: api.OpStats}
	torn    = api.Op{Kind: api.OpTorn}
)

// numbers are those at which a Var or a Word has another encoding, and others.
func numbers() []uint64 {
	l := []uint64{0, 1, 2, 3, 4, 5, 300, 1<<31 - 1, 1 << 31, 1<<32 - 1, 1 << 32, most - 1, most}
	for bits := 7; bits < 64; bits += 7 {
		l = append(l, 1<<bits-1, 1<<bits, 1<<bits+1)
	}
	return l
}

// right are operations that have an encoding, of each kind.
func right() []api.Op {
	l := []api.Op{dequeue, stats, enqueue(0x01020304, 0xA0B0C0D0, 258)}
	for n := range uint64(256) {
		if n == 0 || n > 4 {
			l = append(l, junk(n))
		}
	}
	for _, n := range numbers() {
		l = append(l, tick(n), enqueue(1, 2, n), enqueue(uint32(n), uint32(n>>32), n), enqueue(last, 0, n), enqueue(0, last, n))
	}
	return l
}

// wrong are operations that have none.
func wrong() []api.Op {
	l := []api.Op{torn}
	for _, kind := range []int{math.MinInt, -1 << 32, -256, -2, -1, 5, 6, 7, 9, 10, 255, 256, 257, 258, 1 << 32, 1<<32 + 1, 1<<32 + 2, math.MaxInt} {
		l = append(l, api.Op{Kind: kind}, api.Op{Kind: kind, Flow: 1, ID: 2, Len: 3}, api.Op{Kind: kind, Len: 9}, api.Op{Kind: kind, Ticks: 1}, api.Op{Kind: kind, Len: 1, Ticks: 1})
	}
	for _, n := range []uint64{1, 2, 3, 4, 256, 257, 261, 1 << 16, 1 << 32, 1<<32 + 9, 1 << 63, 1<<63 + 9, most - 250, most} {
		l = append(l, junk(n))
	}
	// What a kind does not name, alone and with others.
	for _, n := range []uint32{1, 2, 9, 256, 1 << 16, 1 << 31, last} {
		for _, m := range []uint64{0, 5, 200} {
			l = append(l, api.Op{Kind: api.OpJunk, Flow: n, Len: m}, api.Op{Kind: api.OpJunk, ID: n, Len: m}, api.Op{Kind: api.OpJunk, Ticks: uint64(n), Len: m}, api.Op{Kind: api.OpJunk, Ticks: uint64(n) << 32, Len: m})
			l = append(l, api.Op{Kind: api.OpTick, Flow: n, Ticks: m}, api.Op{Kind: api.OpTick, ID: n, Ticks: m}, api.Op{Kind: api.OpTick, Len: uint64(n), Ticks: m}, api.Op{Kind: api.OpTick, Len: uint64(n) << 32, Ticks: m})
			l = append(l, api.Op{Kind: api.OpEnqueue, Flow: 1, ID: 2, Len: m, Ticks: uint64(n)}, api.Op{Kind: api.OpEnqueue, Flow: n, ID: n, Len: m, Ticks: uint64(n) << 32})
		}
		for _, kind := range []int{api.OpDequeue, api.OpStats, api.OpTorn} {
			l = append(l, api.Op{Kind: kind, Flow: n}, api.Op{Kind: kind, ID: n}, api.Op{Kind: kind, Len: uint64(n)}, api.Op{Kind: kind, Ticks: uint64(n)})
			l = append(l, api.Op{Kind: kind, Len: uint64(n) << 32}, api.Op{Kind: kind, Ticks: uint64(n) << 32}, api.Op{Kind: kind, Flow: n, ID: n, Len: 1, Ticks: 1})
		}
	}
	return append(l, api.Op{Kind: api.OpEnqueue, Ticks: 1}, api.Op{Kind: api.OpEnqueue, Ticks: most}, api.Op{Kind: api.OpTick, Len: 1}, api.Op{Flow: 1}, api.Op{ID: 1}, api.Op{Ticks: 1}, api.Op{Ticks: most})
}

// encoded is the encoding of an operation that has one.
func encoded(x api.Op) string {
	b := []byte{byte(x.Kind)}
	switch x.Kind {
	case api.OpJunk:
		b[0] = byte(x.Len)
	case api.OpEnqueue:
		b = binary.BigEndian.AppendUint32(b, x.Flow)
		b = binary.BigEndian.AppendUint32(b, x.ID)
		b = binary.AppendUvarint(b, x.Len)
	case api.OpTick:
		b = binary.AppendUvarint(b, x.Ticks)
	}
	return string(b)
}

// model does what Read should, by the definition: the bytes from the first one
// of an operation on begin with its encoding.
func model(s string) []api.Op {
	var l []api.Op
	for s != "" {
		x := torn
		r := strings.NewReader(s[1:])
		switch s[0] {
		case api.OpEnqueue:
			var w [2]uint32
			err := binary.Read(r, binary.BigEndian, &w)
			if n, e := binary.ReadUvarint(r); err == nil && e == nil {
				x = enqueue(w[0], w[1], n)
			}
		case api.OpDequeue:
			x = dequeue
		case api.OpTick:
			if n, err := binary.ReadUvarint(r); err == nil {
				x = tick(n)
			}
		case api.OpStats:
			x = stats
		default:
			x = junk(uint64(s[0]))
		}
		// A Var with a needless 0 is not the encoding of its number.
		rest, ok := "", x != torn
		if ok {
			rest, ok = strings.CutPrefix(s, encoded(x))
		}
		if !ok {
			return append(l, torn)
		}
		l, s = append(l, x), rest
	}
	return l
}

// random returns a function whose result is less than n.
func random(seed uint64) func(n uint64) uint64 {
	return func(n uint64) uint64 {
		seed = seed*6364136223846793005 + 1442695040888963407
		return seed >> 33 % n
	}
}

func checkPut(t *testing.T, want string, err api.Errno, l ...api.Op) {
	t.Helper()
	if s, e := Put(l...); s != want || e != err {
		t.Errorf("Put(%.300v) is %.300q, %d, not %.300q, %d", l, s, e, want, err)
	}
}

func checkRead(t *testing.T, s string, want ...api.Op) {
	t.Helper()
	if l := Read(s); !slices.Equal(l, want) {
		t.Errorf("Read(%.300q) is %.300v, not %.300v", s, l, want)
	}
}

// 25.1: each kind, kinds that there are not, fields that a kind does not name.
func TestRight(t *testing.T) {
	for _, x := range right() {
		if !Right(x) {
			t.Errorf("%v is not right", x)
		}
	}
	for _, x := range wrong() {
		if Right(x) {
			t.Errorf("%v is right", x)
		}
	}
	// All operations with few numbers.
	few := []uint64{0, 1, 4, 5, 255, 256}
	for kind := -1; kind < 8; kind++ {
		for i := range 6 * 6 * 6 * 6 {
			flow, id, n, ticks := few[i%6], few[i/6%6], few[i/36%6], few[i/216]
			x := api.Op{Kind: kind, Flow: uint32(flow), ID: uint32(id), Len: n, Ticks: ticks}
			want := false
			switch kind {
			case api.OpEnqueue:
				want = ticks == 0
			case api.OpDequeue, api.OpStats:
				want = flow == 0 && id == 0 && n == 0 && ticks == 0
			case api.OpTick:
				want = flow == 0 && id == 0 && n == 0
			case api.OpJunk:
				want = flow == 0 && id == 0 && ticks == 0 && (n == 0 || n == 5 || n == 255)
			}
			if Right(x) != want {
				t.Errorf("Right(%v) is %t", x, !want)
			}
		}
	}
}

// 25.1: the encodings, and the edges of numbers.
func TestPut(t *testing.T) {
	checkPut(t, "", api.OK)
	checkPut(t, "\x01\x00\x00\x00\x00\x00\x00\x00\x00\x00", api.OK, enqueue(0, 0, 0))
	checkPut(t, "\x01\x01\x02\x03\x04\xa0\xb0\xc0\xd0\xac\x02", api.OK, enqueue(0x01020304, 0xA0B0C0D0, 300))
	checkPut(t, "\x01\xff\xff\xff\xff\x00\x00\x00\x00\x7f", api.OK, enqueue(last, 0, 127))
	checkPut(t, "\x01\x00\x00\x00\x00\xff\xff\xff\xff\x80\x01", api.OK, enqueue(0, last, 128))
	checkPut(t, "\x01\xff\xff\xff\xff\xff\xff\xff\xff"+tens+"\x01", api.OK, enqueue(last, last, most))
	checkPut(t, "\x02", api.OK, dequeue)
	checkPut(t, "\x03\x00", api.OK, tick(0))
	checkPut(t, "\x03\x7f", api.OK, tick(127))
	checkPut(t, "\x03\x80\x01", api.OK, tick(128))
	checkPut(t, "\x03\xff\x7f", api.OK, tick(16383))
	checkPut(t, "\x03\x80\x80\x01", api.OK, tick(16384))
	checkPut(t, "\x03"+strings.Repeat("\x80", 9)+"\x01", api.OK, tick(1<<63))
	checkPut(t, "\x03"+tens+"\x01", api.OK, tick(most))
	checkPut(t, "\x04", api.OK, stats)
	checkPut(t, "\x00", api.OK, junk(0))
	checkPut(t, "\x05", api.OK, junk(5))
	checkPut(t, "\x80", api.OK, junk(128))
	checkPut(t, "\xff", api.OK, junk(255))
	checkPut(t, "\x02\x02", api.OK, dequeue, dequeue)
	checkPut(t, "\x02\x04\x03\x05\x00\x01\x00\x00\x00\x07\x00\x00\x00\x08\x09\x0a", api.OK, dequeue, stats, tick(5), junk(0), enqueue(7, 8, 9), junk(10))
	for _, x := range right() {
		checkPut(t, encoded(x), api.OK, x)
	}
}

// 25.1: the encodings of many, one after the other.
func TestPutMany(t *testing.T) {
	l := right()
	var want strings.Builder
	for i := range l {
		checkPut(t, want.String(), api.OK, l[:i]...)
		want.WriteString(encoded(l[i]))
	}
	checkPut(t, want.String(), api.OK, l...)
	checkPut(t, strings.Repeat(want.String(), 100), api.OK, slices.Repeat(l, 100)...)
}

// 25.1: one that is not right first, between and last.
func TestPutWrong(t *testing.T) {
	for _, x := range wrong() {
		checkPut(t, "", api.ErrArg, x)
		checkPut(t, "", api.ErrArg, x, dequeue)
		checkPut(t, "", api.ErrArg, dequeue, x)
		checkPut(t, "", api.ErrArg, tick(1), x, enqueue(1, 2, 3))
		checkPut(t, "", api.ErrArg, x, x)
	}
	l := right()
	for i := range l {
		checkPut(t, "", api.ErrArg, slices.Insert(slices.Clone(l), i, torn)...)
	}
	checkPut(t, "", api.ErrArg, append(slices.Clone(l), junk(256))...)
}

// 25.2: no bytes, and each first byte, alone and with bytes behind it.
func TestReadFirst(t *testing.T) {
	checkRead(t, "")
	for n := range 256 {
		s := string([]byte{byte(n)})
		switch n {
		case api.OpEnqueue, api.OpTick:
			checkRead(t, s, torn)
			checkRead(t, "\x02"+s, dequeue, torn)
		case api.OpDequeue:
			checkRead(t, s, dequeue)
			checkRead(t, s+s, dequeue, dequeue)
			checkRead(t, s+"\x04", dequeue, stats)
		case api.OpStats:
			checkRead(t, s, stats)
			checkRead(t, s+s, stats, stats)
			checkRead(t, s+"\x02", stats, dequeue)
		default:
			checkRead(t, s, junk(uint64(n)))
			checkRead(t, s+s, junk(uint64(n)), junk(uint64(n)))
			checkRead(t, s+"\x02\x04", junk(uint64(n)), dequeue, stats)
			checkRead(t, "\x03\x00"+s, tick(0), junk(uint64(n)))
		}
		checkRead(t, s+"\x00\x00\x00\x01\x00\x00\x00\x02\x03", model(s+"\x00\x00\x00\x01\x00\x00\x00\x02\x03")...)
	}
	// The example.
	checkRead(t, "\x02\x09\x03\x05\x01", dequeue, junk(9), tick(5), torn)
}

// 25.2: what the fields of an operation are, whatever follows them.
func TestReadFields(t *testing.T) {
	checkRead(t, "\x01\x01\x02\x03\x04\xa0\xb0\xc0\xd0\xac\x02", enqueue(0x01020304, 0xA0B0C0D0, 300))
	checkRead(t, "\x01\x01\x02\x03\x04\x05\x06\x07\x08\x01\x02\x03\x04", enqueue(0x01020304, 0x05060708, 1), dequeue, tick(4))
	checkRead(t, "\x03\x02\x02", tick(2), dequeue)
	checkRead(t, "\x03\x03\x03\x03", tick(3), tick(3))
	checkRead(t, "\x03"+tens+"\x01\x04", tick(most), stats)
	for _, x := range right() {
		checkRead(t, encoded(x), x)
		checkRead(t, encoded(x)+"\x04", x, stats)
		checkRead(t, encoded(x)+"\x01", x, torn)
		checkRead(t, "\x05"+encoded(x)+"\xff", junk(5), x, junk(255))
	}
}

// 25.2: an operation that is cut off at each byte.
func TestReadCut(t *testing.T) {
	for _, x := range right() {
		s := encoded(x)
		for n := 1; n < len(s); n++ {
			checkRead(t, s[:n], torn)
			checkRead(t, s+s[:n], x, torn)
			checkRead(t, "\x04\x00"+s[:n], stats, junk(0), torn)
		}
	}
}

// 25.2: a Var that is too long or has another encoding ends everything, also
// with bytes behind it that would be operations.
func TestReadForm(t *testing.T) {
	long := strings.Repeat("\x80", 9)
	for _, s := range []string{
		"\x80\x00", "\x81\x00", "\xff\x00", "\x80\x80\x00", "\xff\xff\x00", long + "\x00", tens + "\x00", tens + "\x02", tens + "\x03", tens + "\x7f", tens + "\x80", tens + "\x81", tens + "\xff",
		long + "\x02", long + "\x80", long + "\x80\x01", tens + "\xff\x01", strings.Repeat("\x80", 20), strings.Repeat("\xff", 1000) + "\x01",
	} {
		for _, rest := range []string{"", "\x02", "\x00", "\x04\x04\x04", "\x03\x05", "\x01\x00\x00\x00\x01\x00\x00\x00\x02\x03"} {
			checkRead(t, "\x03"+s+rest, torn)
			checkRead(t, "\x01\x00\x00\x00\x01\x00\x00\x00\x02"+s+rest, torn)
			checkRead(t, "\x02\x09\x03"+s+rest, dequeue, junk(9), torn)
			checkRead(t, "\x03\x01\x01\x00\x00\x00\x01\x00\x00\x00\x02"+s+rest, tick(1), torn)
		}
	}
	// Such bytes are no Var behind an operation that has none.
	checkRead(t, "\x02\x80\x00", dequeue, junk(128), junk(0))
	// In a Word they are as good as others.
	checkRead(t, "\x01\x80\x00\x80\x00\xff\xff\xff\x00\x07", enqueue(0x80008000, 0xffffff00, 7))
}

// 25.2 and 25.4: all texts of few bytes, against the definition.
func TestAllBytes(t *testing.T) {
	alphabet := "\x00\x01\x02\x03\x04\x05\x7f\x80\xff"
	var texts func(s string, n int)
	texts = func(s string, n int) {
		checkBack(t, s)
		for i := range len(alphabet) {
			if n > 0 {
				texts(s+alphabet[i:i+1], n-1)
			}
		}
	}
	texts("", 5)
	texts("\x01\x00\x00\x00\x01\x00\x00", 4)
	texts("\x03"+strings.Repeat("\x80", 8), 3)
	texts("\x01\x01\x02\x03\x04\x05\x06\x07\x08"+tens[:7], 4)
}

// checkBack checks Read of any bytes, and that what it returned has them.
func checkBack(t *testing.T, s string) {
	t.Helper()
	l := Read(s)
	if want := model(s); !slices.Equal(l, want) {
		t.Fatalf("Read(%q) is %v, not %v", s, l, want)
	}
	n := len(l)
	for i, x := range l {
		if x.Kind == api.OpTorn && i == n-1 {
			l = l[:i]
		} else if !Right(x) {
			t.Fatalf("Read(%q) has %v", s, x)
		}
	}
	back, err := Put(l...)
	if err != api.OK || !strings.HasPrefix(s, back) || (len(back) == len(s)) != (len(l) == n) {
		t.Fatalf("Put of what Read(%q) returned is %q, %d", s, back, err)
	}
}

// 25.2 and 25.4: long texts of any bytes.
func TestLong(t *testing.T) {
	next := random(25)
	alphabets := []string{"\x00\x01\x02\x03\x04\x05\x7f\x80\xff", "\x01\x02\x03\x04\x05", "\x02\x03\x04\x05\x06\x07\x08"}
	for i := range 5000 {
		var b []byte
		for range next(200) {
			c := byte(next(256))
			if i%4 > 0 {
				a := alphabets[i%4-1]
				c = a[next(uint64(len(a)))]
			}
			b = append(b, c)
		}
		checkBack(t, string(b))
	}
	for n := range 256 {
		checkBack(t, strings.Repeat(string([]byte{byte(n)}), 10000))
	}
	checkBack(t, strings.Repeat("\x03\x07\x02\x09", 300000)+"\x01")
}

// 25.3
func TestReadInvertsPut(t *testing.T) {
	next := random(253)
	all := right()
	for range 3000 {
		var l []api.Op
		for range next(30) {
			x := all[next(uint64(len(all)))]
			if next(2) == 0 {
				n := (next(1<<31)<<33 | next(1<<31)<<2 | next(4)) >> next(64)
				x = []api.Op{enqueue(uint32(next(1<<31)*3), uint32(next(1<<31)*5), n), tick(n), dequeue, stats}[next(4)]
			}
			l = append(l, x)
		}
		s, err := Put(l...)
		if got := Read(s); err != api.OK || !slices.Equal(got, l) {
			t.Fatalf("Read(%q) is %v, not %v; the error was %d", s, got, l, err)
		}
	}
	s, err := Put(all...)
	if err != api.OK {
		t.Fatalf("Put is %d", err)
	}
	checkRead(t, s, all...)
}

// 25.2: a torn operation has nothing but its kind, and stands at the end alone.
func TestTorn(t *testing.T) {
	for _, s := range []string{"\x01", "\x03", "\x01\x02\x02\x02\x02", "\x01\x02\x02\x02\x02\x03\x03\x03\x03", "\x03\x80", "\x03\xff\xff", "\x01\x02\x02\x02\x02\x03\x03\x03\x03\x80"} {
		for n := range 5 {
			l := Read(strings.Repeat("\x04", n) + s)
			if len(l) != n+1 || l[n] != torn || slices.Contains(l[:n], torn) {
				t.Errorf("%d operations ahead of %q are %v", n, s, l)
			}
		}
	}
}

// P2, ownership: calls change nothing of what they are given, nor what other
// calls returned, and keep nothing.
func TestOwnership(t *testing.T) {
	given := []api.Op{enqueue(1, 2, 3), dequeue, tick(4), junk(9)}
	spare := append(slices.Clone(given), stats)[:len(given)]
	s, _ := Put(spare...)
	if !slices.Equal(spare, given) || spare[:len(given)+1][len(given)] != stats {
		t.Errorf("the operations became %v", spare)
	}
	a, b := Read(s), Read(s)
	clear(a)
	a = append(a[:1], torn, torn, torn, torn, torn)
	clear(spare)
	if !slices.Equal(b, given) || s != "\x01\x00\x00\x00\x01\x00\x00\x00\x02\x03\x02\x03\x04\x09" {
		t.Errorf("the results became %v, %q", b, s)
	}
	for range 3 {
		checkRead(t, s, given...)
		checkRead(t, s+"\x01", append(slices.Clone(given), torn)...)
		checkRead(t, "")
		checkPut(t, "", api.ErrArg, dequeue, torn)
		checkPut(t, s, api.OK, given...)
		checkPut(t, "", api.OK)
	}
}
