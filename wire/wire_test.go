package wire

import (
	"encoding/binary"
	"slices"
	"strings"
	"testing"

	"pacemaker/api"
)

const most uint64 = api.MaxU64

// number gives a field of a number.
func number(kind int, n uint64) api.Field { return api.Field{Kind: kind, N: n} }

// text gives a field of a text.
func text(s string) api.Field { return api.Field{Kind: Text, S: s} }

// fields gives fields of all kinds: at their edges, and between them.
func fields() []api.Field {
	var l []api.Field
	for bits := range 65 {
		n := most >> (64 - bits) // the greatest number of so many bits
		for _, x := range []uint64{n, n / 3, n - n/5} {
			for kind, width := range map[int]int{Byte: 8, Half: 16, Word: 32, Long: 64, Var: 64} {
				if bits <= width {
					l = append(l, number(kind, x))
				}
			}
		}
	}
	for _, n := range []int{0, 1, 2, 127, 128, 129, 16383, 16384, api.MaxText - 1, api.MaxText} {
		l = append(l, text(strings.Repeat("\x80", n)))
	}
	slices.SortStableFunc(l, func(a, b api.Field) int { return a.Kind - b.Kind })
	return append(l, text("\x00\xff"), text("a b\n"))
}

// encoded gives the encoding of a field in which nothing is wrong.
func encoded(f api.Field) string {
	switch f.Kind {
	case Byte:
		return string([]byte{byte(f.N)})
	case Half:
		return string(binary.BigEndian.AppendUint16(nil, uint16(f.N)))
	case Word:
		return string(binary.BigEndian.AppendUint32(nil, uint32(f.N)))
	case Long:
		return string(binary.BigEndian.AppendUint64(nil, f.N))
	case Var:
		return string(binary.AppendUvarint(nil, f.N))
	}
	return string(binary.AppendUvarint(nil, uint64(len(f.S)))) + f.S
}

func checkPut(t *testing.T, want string, err api.Errno, l ...api.Field) {
	t.Helper()
	if got, e := Put(l...); got != want || e != err {
		t.Errorf("Put of %d fields is %.40q, %d, not %.40q, %d", len(l), got, e, want, err)
	}
}

func checkTake(t *testing.T, s string, want []api.Field, n int, err api.Errno, kinds ...int) {
	t.Helper()
	if got, m, e := Take(s, kinds...); !slices.Equal(got, want) || m != n || e != err {
		t.Errorf("Take of %.40q, %d is %.40v, %d, %d, not %.40v, %d, %d", s, kinds, got, m, e, want, n, err)
	}
}

// 4.1: the kinds have the numbers that the document names.
func TestKinds(t *testing.T) {
	if [...]int{Byte, Half, Word, Long, Var, Text} != [...]int{1, 2, 3, 4, 5, 6} {
		t.Error("the kinds have other numbers")
	}
}

// 4.1
func TestPut(t *testing.T) {
	checkPut(t, "", api.OK)
	checkPut(t, "\x01\x02\xac\x02", api.OK, number(Half, 258), number(Var, 300))
	checkPut(t, "\x00", api.OK, number(Byte, 0))
	checkPut(t, "\xff", api.OK, number(Byte, 255))
	checkPut(t, "\x00\x00", api.OK, number(Half, 0))
	checkPut(t, "\xff\xff", api.OK, number(Half, 65535))
	checkPut(t, "\x01\x02\x03\x04", api.OK, number(Word, 0x01020304))
	checkPut(t, "\xff\xff\xff\xff", api.OK, number(Word, 1<<32-1))
	checkPut(t, "\x01\x02\x03\x04\x05\x06\x07\x08", api.OK, number(Long, 0x0102030405060708))
	checkPut(t, "\xff\xff\xff\xff\xff\xff\xff\xff", api.OK, number(Long, most))
	checkPut(t, "\x00", api.OK, number(Var, 0))
	checkPut(t, "\x01", api.OK, number(Var, 1))
	checkPut(t, "\x7f", api.OK, number(Var, 127))
	checkPut(t, "\x80\x01", api.OK, number(Var, 128))
	checkPut(t, "\xff\x7f", api.OK, number(Var, 16383))
	checkPut(t, "\x80\x80\x01", api.OK, number(Var, 16384))
	checkPut(t, strings.Repeat("\xff", 8)+"\x7f", api.OK, number(Var, 1<<63-1))
	checkPut(t, strings.Repeat("\x80", 9)+"\x01", api.OK, number(Var, 1<<63))
	checkPut(t, strings.Repeat("\xff", 9)+"\x01", api.OK, number(Var, most))
	checkPut(t, "\x00", api.OK, text(""))
	checkPut(t, "\x02ab", api.OK, text("ab"))
	checkPut(t, "\x80\x01"+strings.Repeat("a", 128), api.OK, text(strings.Repeat("a", 128)))
	checkPut(t, "\xff\xff\x03"+strings.Repeat("a", 65535), api.OK, text(strings.Repeat("a", 65535)))
}

// wrong are fields that Put refuses.
func wrong() map[api.Errno][]api.Field {
	long := strings.Repeat("a", api.MaxText+1)
	return map[api.Errno][]api.Field{
		api.ErrArg: {
			{}, number(7, 0), number(-1, 0), number(1<<40, 1), number(-1<<63, 1), number(1<<63-1, 1), {Kind: 0, N: 1}, {Kind: 7, S: "a"}, {Kind: 7, N: most, S: long},
			{Kind: Byte, S: "a"}, {Kind: Half, S: "a"}, {Kind: Word, S: "a"}, {Kind: Long, S: "a"}, {Kind: Var, S: "a"}, {Kind: Var, N: 1, S: "a"}, {Kind: Text, N: 1}, {Kind: Text, N: 1, S: "a"},
			{Kind: Byte, N: 256, S: "a"}, {Kind: Byte, N: 256, S: long}, {Kind: Long, S: long}, {Kind: Text, N: 1, S: long}, {Kind: Text, N: most},
		},
		api.ErrOver: {
			number(Byte, 256), number(Byte, most), number(Byte, 1<<32), number(Half, 65536), number(Half, 1<<32), number(Half, most), number(Word, 1<<32), number(Word, most), number(Word, 1<<63),
		},
		api.ErrLong: {text(long), text(long + long)},
	}
}

// 4.1, in a field, and ahead of and behind fields in which nothing is wrong.
func TestPutWrong(t *testing.T) {
	good := []api.Field{number(Byte, 255), text("ab"), number(Var, 300)}
	for err, l := range wrong() {
		for _, f := range l {
			checkPut(t, "", err, f)
			checkPut(t, "", err, append([]api.Field{f}, good...)...)
			checkPut(t, "", err, append(slices.Clone(good), f)...)
			if n := Size(f); n != 0 {
				t.Errorf("Size of a field with error %d is %d", err, n)
			}
		}
	}
}

// 4.1: the first field that is wrong, whatever is wrong with a later one.
func TestPutFirstWrong(t *testing.T) {
	all := wrong()
	for err, l := range all {
		for other, m := range all {
			checkPut(t, "", err, number(Byte, 1), l[0], m[0])
			checkPut(t, "", other, m[len(m)-1], l[len(l)-1])
		}
	}
}

// 4.1
func TestPutAll(t *testing.T) {
	var all string
	for _, f := range fields() {
		want := encoded(f)
		checkPut(t, want, api.OK, f)
		if n := Size(f); n != len(want) {
			t.Errorf("Size of a field of kind %d with %d and %d bytes is %d, not %d", f.Kind, f.N, len(f.S), n, len(want))
		}
		all += want
	}
	checkPut(t, all, api.OK, fields()...)
}

// 4.1
func TestSize(t *testing.T) {
	for _, x := range []struct {
		f    api.Field
		want int
	}{
		{number(Byte, 0), 1}, {number(Half, 0), 2}, {number(Word, 0), 4}, {number(Long, 0), 8}, {number(Long, most), 8},
		{number(Var, 0), 1}, {number(Var, 127), 1}, {number(Var, 128), 2}, {number(Var, 1<<14-1), 2}, {number(Var, 1<<14), 3},
		{number(Var, 1<<63-1), 9}, {number(Var, 1<<63), 10}, {number(Var, most), 10},
		{text(""), 1}, {text("a"), 2}, {text(strings.Repeat("a", 127)), 128}, {text(strings.Repeat("a", 128)), 130},
		{text(strings.Repeat("a", api.MaxText)), api.MaxText + 3},
	} {
		if n := Size(x.f); n != x.want {
			t.Errorf("Size of a field of kind %d with %d and %d bytes is %d, not %d", x.f.Kind, x.f.N, len(x.f.S), n, x.want)
		}
	}
}

// 4.2
func TestTake(t *testing.T) {
	checkTake(t, "", nil, 0, api.OK)
	checkTake(t, "abc", nil, 0, api.OK)
	checkTake(t, "\x01\x02\xac\x02", []api.Field{number(Half, 258), number(Var, 300)}, 4, api.OK, Half, Var)
	checkTake(t, "\x01\x02\xac\x02", []api.Field{number(Byte, 1), number(Byte, 2)}, 2, api.OK, Byte, Byte)
	checkTake(t, "\x01\x02\x03\x04\x05", []api.Field{number(Word, 0x01020304)}, 4, api.OK, Word)
	checkTake(t, "\x01\x02\x03\x04\x05\x06\x07\x08\x09", []api.Field{number(Long, 0x0102030405060708)}, 8, api.OK, Long)
	checkTake(t, "\x00", []api.Field{number(Var, 0)}, 1, api.OK, Var)
	checkTake(t, "\x00\x00", []api.Field{number(Var, 0), number(Var, 0)}, 2, api.OK, Var, Var)
	checkTake(t, strings.Repeat("\xff", 9)+"\x01", []api.Field{number(Var, most)}, 10, api.OK, Var)
	checkTake(t, "\x00", []api.Field{text("")}, 1, api.OK, Text)
	checkTake(t, "\x03a\x00\xff9", []api.Field{text("a\x00\xff")}, 4, api.OK, Text)
	checkTake(t, "\x00\x01a", []api.Field{text(""), text("a")}, 3, api.OK, Text, Text)
	long := strings.Repeat("a", api.MaxText)
	checkTake(t, "\xff\xff\x03"+long, []api.Field{text(long)}, api.MaxText+3, api.OK, Text)
}

// 4.2: of the first field that cannot be read.
func TestTakeKinds(t *testing.T) {
	for _, kind := range []int{0, 7, -1, 8, -5, 1 << 40, -1 << 63, 1<<63 - 1} {
		checkTake(t, "", nil, 0, api.ErrArg, kind)
		checkTake(t, "\x01\x02\x03", nil, 0, api.ErrArg, kind)
		checkTake(t, "\x01\x02\x03", nil, 0, api.ErrArg, Byte, kind)
		checkTake(t, "\x01", nil, 0, api.ErrArg, Byte, kind, Byte)
		checkTake(t, "", nil, 0, api.ErrArg, kind, Byte)
		checkTake(t, "", nil, 0, api.ErrShort, Byte, kind)
		checkTake(t, "\x80\x00", nil, 0, api.ErrForm, Var, kind)
		checkTake(t, "\x80\x80\x04", nil, 0, api.ErrLong, Text, kind)
	}
}

// 4.2
func TestTakeShort(t *testing.T) {
	for kind, s := range map[int]string{Byte: "", Half: "\x01", Word: "\x01\x02\x03", Long: "\x01\x02\x03\x04\x05\x06\x07", Var: "\x80", Text: "\x02a"} {
		checkTake(t, "", nil, 0, api.ErrShort, kind)
		checkTake(t, s, nil, 0, api.ErrShort, kind)
		checkTake(t, "\x05"+s, nil, 0, api.ErrShort, Byte, kind)
		checkTake(t, s, nil, 0, api.ErrShort, kind, Byte)
	}
	checkTake(t, "\x01", nil, 0, api.ErrShort, Byte, Byte)
	checkTake(t, "\x81\x80", nil, 0, api.ErrShort, Text)
	checkTake(t, "\x80\x01"+strings.Repeat("a", 127), nil, 0, api.ErrShort, Text)
	checkTake(t, "\xff\xff\x03"+strings.Repeat("a", api.MaxText-1), nil, 0, api.ErrShort, Text)
}

// 4.2: a Var has the form till a byte cannot be right, whatever follows.
func TestTakeVarForm(t *testing.T) {
	for _, more := range []string{"", "\x00", "\x01", "\x7f", "\x80", "\xff", "abcdefghijkl", strings.Repeat("\x80", 12)} {
		for n := 1; n <= 9; n++ {
			checkTake(t, strings.Repeat("\x80", n)+"\x00"+more, nil, 0, api.ErrForm, Var)
			checkTake(t, strings.Repeat("\xff", n)+"\x00"+more, nil, 0, api.ErrForm, Var)
			checkTake(t, strings.Repeat("\xff", n)+"\x00"+more, nil, 0, api.ErrForm, Text)
		}
		for _, tenth := range []string{"\x02", "\x03", "\x7f", "\x80", "\x81", "\xff"} {
			checkTake(t, strings.Repeat("\x80", 9)+tenth+more, nil, 0, api.ErrForm, Var)
			checkTake(t, strings.Repeat("\xff", 9)+tenth+more, nil, 0, api.ErrForm, Var)
			checkTake(t, strings.Repeat("\xff", 9)+tenth+more, nil, 0, api.ErrForm, Text)
		}
	}
	for n := 1; n <= 9; n++ {
		checkTake(t, strings.Repeat("\x80", n), nil, 0, api.ErrShort, Var)
		checkTake(t, strings.Repeat("\xff", n), nil, 0, api.ErrShort, Var)
		checkTake(t, strings.Repeat("\xff", n), nil, 0, api.ErrShort, Text)
		checkTake(t, strings.Repeat("\x80", n)+"\x01", []api.Field{number(Var, 1<<(7*n))}, n+1, api.OK, Var)
	}
}

// 4.2: as soon as its length is read.
func TestTakeLong(t *testing.T) {
	for _, n := range []uint64{api.MaxText + 1, api.MaxText + 2, 1 << 21, 1<<31 - 1, 1 << 32, 1<<32 + 1, 1<<63 - 1, 1 << 63, most - 3, most} {
		s := string(binary.AppendUvarint(nil, n))
		checkTake(t, s, nil, 0, api.ErrLong, Text)
		checkTake(t, s+"abc", nil, 0, api.ErrLong, Text)
		checkTake(t, "\x01a"+s, nil, 0, api.ErrLong, Text, Text)
	}
	checkTake(t, "\x80\x80\x04"+strings.Repeat("a", api.MaxText+1), nil, 0, api.ErrLong, Text)
}

// 4.3
func TestTakeInvertsPut(t *testing.T) {
	var all string
	var kinds []int
	for _, f := range fields() {
		s := encoded(f)
		for _, more := range []string{"", "\x00", "\xff", "\x80\x80"} {
			checkTake(t, s+more, []api.Field{f}, len(s), api.OK, f.Kind)
		}
		all += s
		kinds = append(kinds, f.Kind)
	}
	checkTake(t, all, fields(), len(all), api.OK, kinds...)
	checkTake(t, all+"x", fields(), len(all), api.OK, kinds...)
}

// some calls f with all short strings of bytes at which a field could go
// wrong.
func some(n int, f func(s string)) {
	f("")
	if n == 0 {
		return
	}
	for _, b := range []byte{0, 1, 2, 4, 127, 128, 130, 255} {
		some(n-1, func(s string) { f(string([]byte{b}) + s) })
	}
}

// 4.3
func TestPutInvertsTake(t *testing.T) {
	for _, kinds := range [][]int{{Byte}, {Half}, {Var}, {Text}, {Var, Byte}, {Text, Var}, {Word}, {Var, Var, Text}} {
		some(5, func(s string) {
			l, n, err := Take(s, kinds...)
			if err != api.OK {
				return
			}
			if back, err := Put(l...); back != s[:n] || err != api.OK {
				t.Errorf("Take of %q, %d is %v, and Put of that %q, %d", s, kinds, l, back, err)
			}
		})
	}
}

// 4.4
func TestCutOff(t *testing.T) {
	for _, f := range fields() {
		s := encoded(f)
		for n := 0; n < len(s); n += 1 + n/40 {
			checkTake(t, s[:n], nil, 0, api.ErrShort, f.Kind)
			checkTake(t, "\x07"+s[:n], nil, 0, api.ErrShort, Byte, f.Kind, Byte)
		}
	}
	l := []api.Field{number(Half, 7), text("abc"), number(Var, 1<<20), number(Word, 9), number(Long, 1), text("")}
	s, _ := Put(l...)
	for n := range len(s) {
		checkTake(t, s[:n], nil, 0, api.ErrShort, Half, Text, Var, Word, Long, Text)
	}
	checkTake(t, s, l, len(s), api.OK, Half, Text, Var, Word, Long, Text)
}

// P2: no call changes what it is given, or what a later one returns.
func TestAgain(t *testing.T) {
	l := []api.Field{number(Byte, 1), text("a"), number(Byte, 256)}
	kinds := []int{Byte, Text}
	for range 2 {
		checkPut(t, "", api.ErrOver, l...)
		checkPut(t, "\x01\x01a", api.OK, l[:2]...)
		if !slices.Equal(l, []api.Field{number(Byte, 1), text("a"), number(Byte, 256)}) {
			t.Errorf("Put left %v", l)
		}
		got, _, _ := Take("\x01\x01a", kinds...)
		if !slices.Equal(got, l[:2]) || !slices.Equal(kinds, []int{Byte, Text}) {
			t.Errorf("Take gave %v, and left %v", got, kinds)
		}
		got[0], got[1] = text("x"), text("y")
	}
}
