package trace

import (
	"math"
	"slices"
	"strings"
	"testing"

	"pacemaker/api"
	"pacemaker/ops"
	"pacemaker/shaper"
)

// 39.1: the chapter's example.
func TestExample(t *testing.T) {
	a, b := api.Record{At: 1, Kind: api.OpEnqueue, Flow: 2, ID: 3, Len: 4}, api.Record{At: 5, Kind: api.OpDequeue, Code: api.ErrEmpty}
	s, err := Put(a, b)
	if len(s) != 60 || err != api.OK {
		t.Fatalf("%q %d", s, err)
	}
	checkRead(t, s, a, b)
	checkRead(t, s[:59], a)
}

// 39.1
func TestConstants(t *testing.T) {
	if Size != 30 {
		t.Error(Size)
	}
}

// 39.1
func TestRight(t *testing.T) {
	for _, r := range some() {
		if !Right(r) {
			t.Errorf("%v is not right", r)
		}
	}
	for _, r := range wrong() {
		if Right(r) {
			t.Errorf("%v is right", r)
		}
	}
}

// 39.1: all kinds with all codes, and some beside them.
func TestRightKindsAndCodes(t *testing.T) {
	for kind := -300; kind < 300; kind++ {
		for code := api.Errno(-300); code < 300; code++ {
			r := api.Record{At: 1, Kind: kind, Flow: 2, ID: 3, Len: 4, Code: code}
			want := kind >= 0 && kind <= 5 && code >= 0 && code <= 31
			if Right(r) != want {
				t.Fatal(r)
			}
			// What is right is all that has an encoding.
			if s, err := Put(r); (err == api.OK) != want || (s != "") != want {
				t.Fatal(r, err)
			}
		}
	}
}

// 39.1: the bytes of an encoding, worked out by hand.
func TestPutBytes(t *testing.T) {
	// The checksum goes over the 26 bytes ahead of it.
	checkPut(t, "\x00\x00\x00\x00\x00\x00\x00\x00\x00\x00\x00\x00\x00\x00\x00\x00\x00\x00\x00\x00\x00\x00\x00\x00\x00\x00\x00\x1a\x00\x01", api.OK, api.Record{})
	r := api.Record{At: 0x0102030405060708, Kind: api.OpStats, Flow: 0x090a0b0c, ID: 0x0d0e0f10, Len: 0x1112131415161718, Code: api.ErrLine}
	want := "\x01\x02\x03\x04\x05\x06\x07\x08\x04\x09\x0a\x0b\x0c\x0d\x0e\x0f\x10\x11\x12\x13\x14\x15\x16\x17\x18\x1f"
	if s, err := Put(r); s != sealed(want) || err != api.OK {
		t.Errorf("%q %d", s, err)
	}
	r = api.Record{At: most, Kind: api.OpTorn, Flow: last, ID: last, Len: most, Code: 31}
	want = strings.Repeat("\xff", 8) + "\x05" + strings.Repeat("\xff", 16) + "\x1f"
	checkPut(t, sealed(want), api.OK, r)
}

// 39.1: no record, one, many.
func TestPut(t *testing.T) {
	checkPut(t, "", api.OK)
	checkPut(t, "", api.OK, []api.Record{}...)
	l := some()
	for i, r := range l {
		checkPut(t, encoded(r), api.OK, r)
		checkPut(t, encoded(l[:i]...), api.OK, l[:i]...)
		checkPut(t, encoded(r, r), api.OK, r, r)
	}
	checkPut(t, encoded(l...), api.OK, l...)
	many := slices.Repeat(l, 200)
	checkPut(t, encoded(many...), api.OK, many...)
}

// 39.1: one record that is not right, alone and at each place among others.
func TestPutWrong(t *testing.T) {
	right := some()[:12]
	for _, r := range wrong() {
		checkPut(t, "", api.ErrArg, r)
		checkPut(t, "", api.ErrArg, r, r)
		for i := range len(right) + 1 {
			checkPut(t, "", api.ErrArg, slices.Insert(slices.Clone(right), i, r)...)
		}
	}
	many := slices.Repeat([]api.Record{{At: 1}}, 5000)
	for _, i := range []int{0, 1, 2500, 4998, 4999} {
		many[i].Kind = 6
		checkPut(t, "", api.ErrArg, many...)
		many[i].Kind = 0
		many[i].Code = 32
		checkPut(t, "", api.ErrArg, many...)
		many[i].Code = 0
	}
	checkPut(t, encoded(many...), api.OK, many...)
}

// 39.1: texts that are shorter than a record, and texts of one, two and some
// bytes more or less.
func TestReadSizes(t *testing.T) {
	a, b, c := some()[0], some()[2], some()[1]
	s := encoded(a, b, c)
	for size, want := range map[int][]api.Record{
		0: nil, 1: nil, 4: nil, 26: nil, 29: nil, 30: {a}, 31: {a}, 34: {a}, 56: {a}, 59: {a}, 60: {a, b}, 61: {a, b}, 89: {a, b}, 90: {a, b, c},
	} {
		checkRead(t, s[:size], want...)
	}
}

// 39.1: bytes that are no records.
func TestReadNothing(t *testing.T) {
	s := encoded(some()[:3]...)
	for size := range 100 {
		checkRead(t, strings.Repeat("\x00", size))
		checkRead(t, strings.Repeat("\xff", size))
		checkRead(t, strings.Repeat("record", size))
		// All but the first bytes, as far as these are not whole records.
		if size < 90 && size%30 != 0 {
			checkRead(t, s[size:])
		}
	}
	// Sealed bytes of another number.
	for size := range 60 {
		if size != 26 {
			checkRead(t, sealed(strings.Repeat("\x00", size)))
			checkRead(t, sealed(strings.Repeat("\x00", size))+strings.Repeat("\x00", 60))
		}
	}
}

// 39.1: each field of a record that is read.
func TestRead(t *testing.T) {
	for _, r := range some() {
		checkRead(t, encoded(r), r)
		checkRead(t, encoded(r, r), r, r)
	}
	l := some()
	checkRead(t, encoded(l...), l...)
	many := slices.Repeat(l, 200)
	checkRead(t, encoded(many...), many...)
}

// 39.1: a record that is sealed and well formed, but not right, with records
// before and behind it.
func TestReadWrong(t *testing.T) {
	a, b := some()[0], some()[2]
	for _, r := range some()[:3] {
		for n := range 256 {
			for _, test := range []struct {
				s  string
				ok bool
			}{
				{form(r, byte(n), byte(r.Code)), n < 6},
				{form(r, byte(r.Kind), byte(n)), n < 32},
				{form(r, byte(n), byte(n)), n < 6},
			} {
				if l, size := Read(test.s); (len(l) == 1) != test.ok || (size == 30) != test.ok {
					t.Fatalf("Read(%q) is %v, %d", test.s, l, size)
				}
				if test.ok {
					continue
				}
				checkRead(t, test.s+encoded(a, b))
				checkRead(t, encoded(a)+test.s+encoded(b), a)
				checkRead(t, encoded(a, b)+test.s, a, b)
				checkRead(t, encoded(a, b)+test.s+test.s, a, b)
			}
		}
	}
}

// 39.1: bytes whose checksum is the only thing that is wrong.
func TestReadSum(t *testing.T) {
	a, b := some()[0], some()[2]
	s := encoded(b)
	// That of another record, that of bytes swapped, none.
	for _, sum := range []string{encoded(a)[26:], s[27:] + s[26:27], s[28:] + s[26:28], "\x00\x00\x00\x00", "\x00\x00\x00\x01", "\xff\xff\xff\xff"} {
		checkRead(t, s[:26]+sum)
		checkRead(t, encoded(a)+s[:26]+sum+encoded(a), a)
	}
	// The bytes of the next record belong to the checksum of none.
	checkRead(t, s[:26]+encoded(a))
}

// 39.1: any bytes, and records among any bytes.
func TestReadAnyBytes(t *testing.T) {
	next := random(1)
	for range 20000 {
		var b []byte
		for range next(6) {
			switch next(4) {
			case 0:
				for range next(70) {
					b = append(b, byte(next(256)))
				}
			case 1:
				b = append(b, form(anyRecord(next), byte(next(8)), byte(next(40)))...)
			default:
				b = append(b, encoded(anyRecord(next))...)
			}
		}
		s := string(b)
		checkRead(t, s, model(s)...)
	}
}

// 39.3: Read inverts Put, whatever follows.
func TestReadInvertsPut(t *testing.T) {
	next := random(2)
	for range 5000 {
		var l []api.Record
		for range next(8) {
			l = append(l, anyRecord(next))
		}
		s, err := Put(l...)
		if len(s) != 30*len(l) || s != encoded(l...) || err != api.OK {
			t.Fatalf("Put(%v) is %q, %d", l, s, err)
		}
		checkRead(t, s, l...)
		checkRead(t, s+strings.Repeat("\x00", int(next(100))), l...)
		checkRead(t, s+strings.Repeat("\xff", int(next(100))), l...)
		other := encoded(anyRecord(next))
		for size := range 30 {
			checkRead(t, s+other[:size], l...)
		}
		checkRead(t, s+other[:29]+string([]byte{other[29] + 1})+s, l...)
	}
}

// 39.3: Put gives the bytes that Read read.
func TestPutInvertsRead(t *testing.T) {
	next := random(3)
	for range 3000 {
		var l []api.Record
		for range next(5) {
			l = append(l, anyRecord(next))
		}
		s := encoded(l...) + strings.Repeat("x", int(next(40)))
		read, n := Read(s)
		if again, err := Put(read...); again != s[:n] || err != api.OK {
			t.Fatalf("%q, %d", again, err)
		}
	}
}

// 39.3: if the bytes are cut off anywhere, the complete records are read.
func TestCutOff(t *testing.T) {
	next := random(4)
	for range 100 {
		var l []api.Record
		for range 1 + next(6) {
			l = append(l, anyRecord(next))
		}
		s := encoded(l...)
		for size := range len(s) + 1 {
			checkRead(t, s[:size], l[:size/30]...)
		}
	}
}

// 39.4: if one byte is changed, exactly the records before the changed one are
// read: each byte, to each other value.
func TestChangedByte(t *testing.T) {
	l := some()[:4]
	s := encoded(l...)
	for i := range len(s) {
		for n := range 256 {
			if byte(n) != s[i] {
				checkRead(t, s[:i]+string([]byte{byte(n)})+s[i+1:], l[:i/30]...)
			}
		}
	}
}

// 39.4: many records, one byte of which is changed.
func TestChangedByteOfAny(t *testing.T) {
	next := random(5)
	for range 20000 {
		var l []api.Record
		for range 1 + next(7) {
			l = append(l, anyRecord(next))
		}
		b := []byte(encoded(l...))
		i := int(next(uint64(len(b))))
		b[i] += byte(1 + next(255))
		checkRead(t, string(b), l[:i/30]...)
	}
}

// 39.2: one record for each reply, with the fields of the reply.
func TestOf(t *testing.T) {
	x := []api.Op{
		{Kind: api.OpEnqueue, Flow: 1, ID: 2, Len: 3},
		{Kind: api.OpTick, Ticks: 7},
		{Kind: api.OpDequeue},
		{Kind: api.OpTick, Ticks: 5},
		{Kind: api.OpStats},
		{Kind: api.OpJunk, Len: 9},
		{Kind: api.OpTorn},
	}
	p := api.Packet{Flow: 1, ID: 2, Len: 3}
	l := []api.Reply{
		{Kind: api.OpEnqueue, Packet: p, Rank: 10},
		{Kind: api.OpTick},
		{Kind: api.OpDequeue, Packet: p, Rank: 10},
		{Kind: api.OpTick},
		{Kind: api.OpStats, Stats: api.Stats{Now: 12, Tokens: 99, Packets: 4, Bytes: 5}},
		{Kind: api.OpJunk, Code: api.ErrBad},
		{Kind: api.OpTorn, Code: api.ErrShort},
	}
	checkOf(t, x, l,
		api.Record{Kind: 1, Flow: 1, ID: 2, Len: 3},
		api.Record{Kind: 3},
		api.Record{At: 7, Kind: 2, Flow: 1, ID: 2, Len: 3},
		api.Record{At: 7, Kind: 3},
		api.Record{At: 12, Kind: 4},
		api.Record{At: 12, Code: api.ErrBad},
		api.Record{At: 12, Kind: 5, Code: api.ErrShort})
}

// 39.2: fewer replies than operations, more, and none of either.
func TestOfMoreAndFewer(t *testing.T) {
	var x []api.Op
	var l []api.Reply
	var want []api.Record
	for i := range 6 {
		x = append(x, api.Op{Kind: api.OpTick, Ticks: 1 << i})
		l = append(l, api.Reply{Kind: api.OpDequeue, Packet: api.Packet{ID: uint32(i)}})
		want = append(want, api.Record{At: 1<<i - 1, Kind: api.OpDequeue, ID: uint32(i)})
	}
	for n := range 7 {
		for m := range 7 {
			checkOf(t, x[:n], l[:m], want[:min(n, m)]...)
		}
		checkOf(t, nil, l[:n])
		checkOf(t, []api.Op{}, l[:n])
		checkOf(t, x[:n], nil)
		checkOf(t, x[:n], []api.Reply{})
	}
	checkOf(t, nil, nil)
	// Operations without a reply do not tick for those before them.
	checkOf(t, append(slices.Clone(x[:2]), api.Op{Kind: api.OpTick, Ticks: most}), l[:2], want[:2]...)
}

// 39.2: the kind, the packet and the code are those of the reply, where the
// operation has others; whether it is an OpTick is said by the operation.
func TestOfOthers(t *testing.T) {
	x := []api.Op{{Kind: api.OpTick, Flow: 1, ID: 2, Len: 3, Ticks: 4}, {Kind: api.OpEnqueue, Flow: 5, ID: 6, Len: 7, Ticks: 8}, {Kind: api.OpTick, Ticks: 1}}
	l := []api.Reply{
		{Kind: api.OpDequeue, Code: api.ErrFull, Packet: api.Packet{Flow: 9, ID: 10, Len: 11}, Rank: 12},
		{Kind: api.OpTick, Code: api.ErrBad, Packet: api.Packet{Flow: 13, ID: 14, Len: 15}, Stats: api.Stats{Now: 3}},
		{Kind: api.OpStats, Code: api.ErrNil},
	}
	checkOf(t, x, l,
		api.Record{Kind: 2, Flow: 9, ID: 10, Len: 11, Code: api.ErrFull},
		api.Record{At: 4, Kind: 3, Flow: 13, ID: 14, Len: 15, Code: api.ErrBad},
		api.Record{At: 4, Kind: 4, Code: api.ErrNil})
	checkOf(t, []api.Op{{Kind: 1, Flow: 1, ID: 1, Len: 1}}, []api.Reply{{}}, api.Record{})
	all := api.Packet{Flow: last, ID: last, Len: most}
	checkOf(t, []api.Op{{}}, []api.Reply{{Packet: all}}, api.Record{Flow: last, ID: last, Len: most})
}

// kinds are all kinds of operations, and some that there are not.
var kinds = []int{math.MinInt, -3, -1, 0, 1, 2, 3, 4, 5, 6, 7, 31, 255, 256, 258, 1 << 32, 1<<32 + 2, 1<<32 + 3, math.MaxInt}

// someCodes are all codes, and some that there are not.
func someCodes() []api.Errno {
	return append(codes(), math.MinInt, -256, -1, 32, 33, 256, 1<<32, math.MaxInt)
}

// 39.2: kinds and codes of replies are told as they are, right or not.
func TestOfAnyReply(t *testing.T) {
	for _, kind := range kinds {
		for _, code := range someCodes() {
			checkOf(t, []api.Op{{Kind: 3, Ticks: 5}, {}}, []api.Reply{{}, {Kind: kind, Code: code}}, api.Record{}, api.Record{At: 5, Kind: kind, Code: code})
		}
	}
}

// 39.2: only operations of the kind OpTick tick, and these for the indexes
// behind them.
func TestOfTicks(t *testing.T) {
	for _, kind := range kinds {
		for i := range 4 {
			x := make([]api.Op, 4)
			x[i] = api.Op{Kind: kind, Flow: 1, ID: 2, Len: 3, Ticks: 6}
			want := make([]api.Record, 4)
			for j := range want {
				if kind == api.OpTick && j > i {
					want[j].At = 6
				}
			}
			checkOf(t, x, make([]api.Reply, 4), want...)
			// Whatever the replies are.
			l := slices.Repeat([]api.Reply{{Kind: api.OpTick, Code: api.ErrBad, Stats: api.Stats{Now: 9}}}, 4)
			for j := range want {
				want[j].Kind, want[j].Code = api.OpTick, api.ErrBad
			}
			checkOf(t, x, l, want...)
		}
	}
}

// 39.2: ticks stop at the greatest number.
func TestOfCapped(t *testing.T) {
	for _, test := range []struct{ a, b, from, to uint64 }{
		{0, 0, 0, 0},
		{5, 6, 5, 11},
		{most - 1, 0, most - 1, most - 1},
		{most - 1, 1, most - 1, most},
		{most - 1, 2, most - 1, most},
		{1 << 63, 1<<63 - 1, 1 << 63, most},
		{1 << 63, 1 << 63, 1 << 63, most},
		{most, 0, most, most},
		{most, 1, most, most},
		{1, most, 1, most},
		{most, most, most, most},
	} {
		x := []api.Op{{Kind: 3, Ticks: test.a}, {Kind: 3, Ticks: test.b}, {Kind: 3}, {Kind: 3, Ticks: 0}}
		checkOf(t, x, make([]api.Reply, 4), api.Record{}, api.Record{At: test.from}, api.Record{At: test.to}, api.Record{At: test.to})
	}
	x := slices.Repeat([]api.Op{{Kind: 3, Ticks: 1 << 62}}, 6)
	checkOf(t, x, make([]api.Reply, 6), api.Record{}, api.Record{At: 1 << 62}, api.Record{At: 1 << 63}, api.Record{At: 3 << 62}, api.Record{At: most}, api.Record{At: most})
}

// 39.2: many operations and replies, by the definition.
func TestOfAny(t *testing.T) {
	next := random(6)
	for range 5000 {
		var x []api.Op
		for range next(20) {
			x = append(x, api.Op{Kind: one(next, kinds...), Flow: uint32(next(5)), ID: uint32(next(5)), Len: next(5), Ticks: one(next, 0, 1, next(100), anyNumber(next))})
			if next(2) == 0 {
				x[len(x)-1].Kind = api.OpTick
			}
		}
		var l []api.Reply
		for range next(20) {
			p := api.Packet{Flow: uint32(anyNumber(next)), ID: uint32(anyNumber(next)), Len: anyNumber(next)}
			l = append(l, api.Reply{Kind: one(next, kinds...), Code: one(next, someCodes()...), Packet: p, Rank: anyNumber(next), Stats: api.Stats{Now: anyNumber(next)}})
		}
		checkOf(t, x, l, recordsOf(x, l)...)
	}
}

// 39.2: very many operations, in time that does not grow with their square.
func TestOfMany(t *testing.T) {
	n := 300000
	x := slices.Repeat([]api.Op{{Kind: api.OpTick, Ticks: 2}}, n)
	out := Of(x, make([]api.Reply, n))
	if len(out) != n {
		t.Fatal(len(out))
	}
	for i, r := range out {
		if r != (api.Record{At: 2 * uint64(i)}) {
			t.Fatal(i, r)
		}
	}
	s, err := Put(out...)
	if err != api.OK {
		t.Fatal(err)
	}
	checkRead(t, s, out...)
}

// 39.2
func TestLeft(t *testing.T) {
	out := api.Record{At: 4, Kind: api.OpDequeue, Flow: 1, ID: 2, Len: 10}
	checkLeft(t, 0, 0)
	checkLeft(t, 0, 0, []api.Record{}...)
	checkLeft(t, 1, 10, out)
	checkLeft(t, 2, 20, out, out)
	checkLeft(t, 1, 0, api.Record{Kind: api.OpDequeue})
	checkLeft(t, 2, 10, api.Record{Kind: api.OpDequeue}, api.Record{Kind: api.OpEnqueue, Len: 5}, api.Record{Kind: api.OpDequeue, Len: 7, Code: api.ErrEmpty}, out, api.Record{Kind: api.OpTick, Len: 3})
	checkLeft(t, 100000, 1000000, slices.Repeat([]api.Record{out}, 100000)...)
}

// 39.2: no other kind, and no other code.
func TestLeftKindsAndCodes(t *testing.T) {
	for _, kind := range kinds {
		for _, code := range someCodes() {
			r := api.Record{At: 1, Kind: kind, Flow: 2, ID: 3, Len: 4, Code: code}
			var n uint64
			if kind == api.OpDequeue && code == api.OK {
				n = 1
			}
			checkLeft(t, n, 4*n, r)
			checkLeft(t, 2*n+1, 8*n+9, r, api.Record{Kind: api.OpDequeue, Len: 9}, r)
		}
	}
}

// 39.2: lengths stop at the greatest number, packets go on.
func TestLeftCapped(t *testing.T) {
	for _, test := range []struct {
		lens []uint64
		want uint64
	}{
		{[]uint64{most}, most},
		{[]uint64{most - 1}, most - 1},
		{[]uint64{most - 1, 1}, most},
		{[]uint64{most - 1, 2}, most},
		{[]uint64{most, 0}, most},
		{[]uint64{most, 1, 1}, most},
		{[]uint64{1 << 63, 1<<63 - 1}, most},
		{[]uint64{1 << 63, 1 << 63}, most},
		{[]uint64{1 << 63, 1 << 63, 5}, most},
		{[]uint64{most, most, most, most}, most},
	} {
		l := []api.Record{{Kind: api.OpEnqueue, Len: most}, {Kind: api.OpDequeue, Len: most, Code: api.ErrEmpty}}
		for _, n := range test.lens {
			l = append(l, api.Record{Kind: api.OpDequeue, Len: n}, api.Record{Kind: api.OpStats, Len: 3})
		}
		checkLeft(t, uint64(len(test.lens)), test.want, l...)
	}
}

// 39.2: many records, by the definition.
func TestLeftAny(t *testing.T) {
	next := random(7)
	for range 5000 {
		var l []api.Record
		for range next(20) {
			r := anyRecord(next)
			r.Kind, r.Code = one(next, 1, 2, 2, 2, 258), one(next, api.OK, api.OK, api.ErrEmpty, 256)
			l = append(l, r)
		}
		packets, bytes := leftOf(l)
		checkLeft(t, packets, bytes, l...)
	}
}

// 39.1 and 39.2: what a shaper did is written down and read again.
func TestOfShaper(t *testing.T) {
	c := api.Config{Rank: api.RankEDF, Back: api.BackHeap, Levels: 1, Queues: 1, Packets: 9, Bytes: 500, Share: 4,
		MTU: 100, Rate: 10, Burst: 100, Flows: []api.Flow{{ID: 1, Budget: 10, Cap: 300}, {ID: 2, Budget: 20, Cap: 300}}}
	next := random(8)
	for range 50 {
		s, err := shaper.New(c)
		if err != api.OK {
			t.Fatal(err)
		}
		var raw []byte
		for range 200 {
			raw = append(raw, byte(next(6)))
			for range next(12) {
				raw = append(raw, byte(next(4)))
			}
		}
		x := ops.Read(string(raw))
		replies := s.Run(x)
		l := Of(x, replies)
		if len(l) != len(x) {
			t.Fatal(len(l), len(x))
		}
		var left, bytes uint64
		for _, r := range replies {
			if r.Kind == api.OpDequeue && r.Code == api.OK {
				left++
				bytes += r.Packet.Len
			}
		}
		checkLeft(t, left, bytes, l...)
		text, err := Put(l...)
		if err != api.OK {
			t.Fatal(err)
		}
		checkRead(t, text+"more", l...)
	}
}

// P2: the same arguments give the same results.
func TestTwice(t *testing.T) {
	l := some()
	s := encoded(l...)
	for range 3 {
		checkPut(t, s, api.OK, l...)
		checkPut(t, "", api.ErrArg, append(slices.Clone(l), api.Record{Kind: 6})...)
		checkRead(t, s[:29])
		checkRead(t, s, l...)
		checkLeft(t, 1, 9, api.Record{Kind: 2, Len: 9})
	}
}

// Ownership: arguments stay as they are, and results are new memory.
func TestOwnership(t *testing.T) {
	l := append(some(), wrong()...)
	kept := slices.Clone(l)
	Put(l...)
	Left(l)
	if !slices.Equal(l, kept) {
		t.Error("records were changed")
	}
	s := encoded(some()...)
	first, _ := Read(s)
	second, _ := Read(s)
	for i := range first {
		first[i] = api.Record{At: 7}
	}
	if !slices.Equal(second, some()) {
		t.Error("records share memory")
	}
	checkRead(t, s, some()...)
	x := []api.Op{{Kind: 3, Ticks: 4}, {Kind: 1, ID: 9, Ticks: 5}}
	replies := []api.Reply{{Kind: 3}, {Kind: 1, Packet: api.Packet{ID: 9}}}
	a, b := Of(x, replies), Of(x, replies)
	a[1] = api.Record{At: 7}
	if b[1] != (api.Record{At: 4, Kind: 1, ID: 9}) || x[1] != (api.Op{Kind: 1, ID: 9, Ticks: 5}) || replies[1] != (api.Reply{Kind: 1, Packet: api.Packet{ID: 9}}) {
		t.Error(b, x, replies)
	}
	x[1].Kind, replies[1].Packet.ID = 0, 0
	if b[1].ID != 9 {
		t.Error(b)
	}
}
