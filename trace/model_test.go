package trace

import (
	"encoding/binary"
	"hash/adler32"
	"math"
	"math/big"
	"slices"
	"strings"
	"testing"

	"pacemaker/api"
)

const (
	most = api.MaxU64
	last = math.MaxUint32 // the greatest Flow and ID
)

// random returns a function whose result is less than n.
func random(seed uint64) func(n uint64) uint64 {
	return func(n uint64) uint64 {
		seed = seed*6364136223846793005 + 1442695040888963407
		return seed >> 33 % n
	}
}

// one returns one of some values.
func one[T any](next func(n uint64) uint64, l ...T) T {
	return l[next(uint64(len(l)))]
}

// anyNumber returns a number of any size.
func anyNumber(next func(n uint64) uint64) uint64 {
	n := next(1<<31)<<33 ^ next(1<<31)<<16 ^ next(1<<31)
	return n >> next(64)
}

// isRight is Right by the definition.
func isRight(r api.Record) bool {
	return slices.Contains([]int{0, 1, 2, 3, 4, 5}, r.Kind) && slices.Contains(codes(), r.Code)
}

// codes are all codes that there are.
func codes() []api.Errno {
	var l []api.Errno
	for code := range api.Errno(32) {
		l = append(l, code)
	}
	return l
}

// sealed is s with its checksum.
func sealed(s string) string {
	return string(binary.BigEndian.AppendUint32([]byte(s), adler32.Checksum([]byte(s))))
}

// form is the encoding of a record with any bytes for Kind and Code.
func form(r api.Record, kind, code byte) string {
	b := binary.BigEndian.AppendUint64(nil, r.At)
	b = append(b, kind)
	b = binary.BigEndian.AppendUint32(b, r.Flow)
	b = binary.BigEndian.AppendUint32(b, r.ID)
	b = binary.BigEndian.AppendUint64(b, r.Len)
	return sealed(string(append(b, code)))
}

// encoded are the encodings of records that are right.
func encoded(l ...api.Record) string {
	var b strings.Builder
	for _, r := range l {
		b.WriteString(form(r, byte(r.Kind), byte(r.Code)))
	}
	return b.String()
}

// model does what Read should: the fields are where they stand, and these bytes
// are the encoding of them.
func model(s string) []api.Record {
	var l []api.Record
	for len(s) >= 30 {
		b := []byte(s[:30])
		r := api.Record{
			At:   binary.BigEndian.Uint64(b),
			Kind: int(b[8]),
			Flow: binary.BigEndian.Uint32(b[9:]),
			ID:   binary.BigEndian.Uint32(b[13:]),
			Len:  binary.BigEndian.Uint64(b[17:]),
			Code: api.Errno(b[25]),
		}
		if !isRight(r) || encoded(r) != s[:30] {
			break
		}
		l, s = append(l, r), s[30:]
	}
	return l
}

// recordsOf does what Of should: each record by itself.
func recordsOf(x []api.Op, l []api.Reply) []api.Record {
	var out []api.Record
	for i, r := range l {
		if i >= len(x) {
			break
		}
		var ticks []uint64
		for _, o := range x[:i] {
			if o.Kind == api.OpTick {
				ticks = append(ticks, o.Ticks)
			}
		}
		out = append(out, api.Record{At: total(ticks), Kind: r.Kind, Flow: r.Packet.Flow, ID: r.Packet.ID, Len: r.Packet.Len, Code: r.Code})
	}
	return out
}

// leftOf does what Left should.
func leftOf(l []api.Record) (uint64, uint64) {
	var lens []uint64
	for _, r := range l {
		if r.Kind == 2 && r.Code == 0 {
			lens = append(lens, r.Len)
		}
	}
	return uint64(len(lens)), total(lens)
}

// total is the sum of some numbers, capped.
func total(l []uint64) uint64 {
	sum := new(big.Int)
	for _, n := range l {
		sum.Add(sum, new(big.Int).SetUint64(n))
	}
	if !sum.IsUint64() {
		return most
	}
	return sum.Uint64()
}

// some are records that are right, with many values of each field.
func some() []api.Record {
	a := api.Record{At: 258, Kind: api.OpDequeue, Flow: 0x01020304, ID: 0xA0B0C0D0, Len: 0x1122334455667788, Code: api.ErrEmpty}
	l := []api.Record{a, {}, {At: most, Kind: api.OpTorn, Flow: last, ID: last, Len: most, Code: api.ErrLine}}
	numbers := []uint64{0, 1, 2, most - 1, most}
	for bits := 8; bits < 64; bits += 8 {
		numbers = append(numbers, 1<<bits-1, 1<<bits, 1<<bits+1)
	}
	for _, n := range numbers {
		b := a
		b.At = n
		l = append(l, b, api.Record{At: n})
		b = a
		b.Len = n
		l = append(l, b, api.Record{Len: n})
		if n <= last {
			b = a
			b.Flow = uint32(n)
			l = append(l, b, api.Record{Flow: uint32(n)})
			b = a
			b.ID = uint32(n)
			l = append(l, b, api.Record{ID: uint32(n)}, api.Record{Flow: last - uint32(n), ID: last - uint32(n)})
		}
	}
	for kind := range 6 {
		for _, code := range codes() {
			b := a
			b.Kind, b.Code = kind, code
			l = append(l, b, api.Record{Kind: kind, Code: code})
		}
	}
	return l
}

// wrong are records that are not right.
func wrong() []api.Record {
	var l []api.Record
	for _, kind := range []int{math.MinInt, -1 << 32, -257, -256, -255, -6, -2, -1, 6, 7, 8, 31, 127, 128, 255, 256, 257, 258, 261, 1 << 16, 1 << 31, 1 << 32, 1<<32 + 2, math.MaxInt} {
		l = append(l, api.Record{Kind: kind}, api.Record{At: 1, Kind: kind, Flow: 2, ID: 3, Len: 4, Code: 5}, api.Record{Kind: kind, Code: 32}, api.Record{Kind: kind, Code: -1})
	}
	for _, code := range []api.Errno{math.MinInt, -1 << 32, -256, -255, -32, -2, -1, api.Errnos, 32, 33, 63, 64, 127, 128, 255, 256, 257, 287, 1 << 16, 1 << 31, 1 << 32, 1<<32 + 2, math.MaxInt} {
		l = append(l, api.Record{Code: code}, api.Record{At: 1, Kind: 2, Flow: 2, ID: 3, Len: 4, Code: code}, api.Record{Kind: 5, Code: code})
	}
	return l
}

// anyRecord returns a record that is right.
func anyRecord(next func(n uint64) uint64) api.Record {
	return api.Record{
		At:   anyNumber(next),
		Kind: int(next(6)),
		Flow: uint32(anyNumber(next)),
		ID:   uint32(anyNumber(next)),
		Len:  anyNumber(next),
		Code: api.Errno(next(32)),
	}
}

func checkPut(t *testing.T, want string, err api.Errno, l ...api.Record) {
	t.Helper()
	if s, e := Put(l...); s != want || e != err {
		t.Fatalf("Put(%.300v) is %.300q, %d, not %.300q, %d", l, s, e, want, err)
	}
}

func checkRead(t *testing.T, s string, want ...api.Record) {
	t.Helper()
	if l, n := Read(s); !slices.Equal(l, want) || n != 30*len(want) {
		t.Fatalf("Read(%.300q) is %.300v, %d, not %.300v", s, l, n, want)
	}
}

func checkOf(t *testing.T, x []api.Op, l []api.Reply, want ...api.Record) {
	t.Helper()
	if got := Of(x, l); !slices.Equal(got, want) {
		t.Fatalf("Of(%.300v, %.300v) is %.300v, not %.300v", x, l, got, want)
	}
}

func checkLeft(t *testing.T, packets, bytes uint64, l ...api.Record) {
	t.Helper()
	if n, b := Left(l); n != packets || b != bytes {
		t.Fatalf("Left(%.300v) is %d, %d, not %d, %d", l, n, b, packets, bytes)
	}
}
