package addr

import (
	"fmt"
	"math"
	"math/big"
	"net/netip"
	"regexp"
	"strconv"
	"strings"
	"testing"

	"pacemaker/api"
)

const last = math.MaxUint32

// random returns a function whose results are any numbers of 32 bits.
func random(seed uint64) func() uint32 {
	return func() uint32 {
		seed = seed*6364136223846793005 + 1442695040888963407
		return uint32(seed >> 32)
	}
}

// addresses are those near which a part or a bit could go wrong, and others.
func addresses() []uint32 {
	l := []uint32{0, last, last - 1, 10<<24 + 258, 1<<24 + 2<<16 + 3<<8 + 4}
	for i := range 32 {
		l = append(l, 1<<i, 1<<i-1, 1<<i+1, last<<i, ^uint32(1<<i))
	}
	for _, part := range []uint32{1, 9, 10, 99, 100, 127, 128, 200, 254, 255} {
		for i := range 4 {
			l = append(l, part<<(8*i), ^(part << (8 * i)))
		}
	}
	next := random(31)
	for range 200 {
		l = append(l, next())
	}
	return l
}

// checkRead tells whether an address, or an error, is read.
func checkRead(t *testing.T, s string, a uint32, err api.Errno) {
	t.Helper()
	if got, e := Read(s); got != a || e != err {
		t.Errorf("Read(%.60q) is %d, %d, not %d, %d", s, got, e, a, err)
	}
}

// 31.1
func TestPut(t *testing.T) {
	for a, want := range map[uint32]string{
		0: "0.0.0.0", last: "255.255.255.255", 1: "0.0.0.1", 1 << 8: "0.0.1.0", 1 << 16: "0.1.0.0", 1 << 24: "1.0.0.0",
		255: "0.0.0.255", 255 << 8: "0.0.255.0", 255 << 16: "0.255.0.0", 255 << 24: "255.0.0.0",
		10<<24 + 258: "10.0.1.2", 192<<24 + 168<<16 + 100: "192.168.0.100", 1<<24 + 20<<16 + 30<<8 + 4: "1.20.30.4",
	} {
		if got := Put(a); got != want {
			t.Errorf("Put(%d) is %q, not %q", a, got, want)
		}
		checkRead(t, want, a, api.OK)
	}
	for _, a := range addresses() {
		want := netip.AddrFrom4([4]byte{byte(a >> 24), byte(a >> 16), byte(a >> 8), byte(a)}).String()
		if got := Put(a); got != want {
			t.Errorf("Put(%d) is %q, not %q", a, got, want)
		}
	}
}

// 31.1: each number that a part can be, at each place.
func TestParts(t *testing.T) {
	for i := range 4 {
		for n := range uint32(1000) {
			parts := []string{"7", "0", "255", "10"}
			a := uint32(7<<24 + 255<<8 + 10)
			shift := 24 - 8*i
			parts[i] = strconv.Itoa(int(n))
			text := strings.Join(parts, ".")
			if n > 255 {
				checkRead(t, text, 0, api.ErrOver)
				continue
			}
			a = a&^(255<<shift) | n<<shift
			checkRead(t, text, a, api.OK)
			if got := Put(a); got != text {
				t.Errorf("Put(%d) is %q, not %q", a, got, text)
			}
		}
	}
}

// 31.1: without exactly three periods there are no parts that could be wrong
// otherwise.
func TestPeriods(t *testing.T) {
	for _, part := range []string{"1", "0", "255", "256", "99999999999999999999", "", "x", "01"} {
		for n := range 12 {
			if n == 4 {
				continue
			}
			s := strings.Join(make([]string, n), part+".") + part
			checkRead(t, s, 0, api.ErrForm)
		}
	}
	for _, s := range []string{
		"", ".", "..", "...", "....", "1", "1.2", "1.2.3", "1.2.3.4.5", "1.2.3.4.", ".1.2.3.4", "1..2.3.4", "1.2.3,4", "1,2,3,4",
		"1:2:3:4", "256.256.256", "300.1.1.1.1", "1.2.3.4/8", "::1.2.3", "16909060", "0x01020304", strings.Repeat(".", 1<<20), strings.Repeat("1.", 1<<16),
	} {
		checkRead(t, s, 0, api.ErrForm)
	}
}

// wrongParts are right and wrong parts, with their errors.
func wrongParts() map[string]api.Errno {
	return map[string]api.Errno{
		"0": api.OK, "1": api.OK, "7": api.OK, "99": api.OK, "255": api.OK,
		"256": api.ErrOver, "1000": api.ErrOver, "65536": api.ErrOver, "4294967296": api.ErrOver, "4294967297": api.ErrOver,
		"18446744073709551615": api.ErrOver, "18446744073709551616": api.ErrOver, "18446744073709551617": api.ErrOver,
		"9" + strings.Repeat("0", 300): api.ErrOver,
		"":                             api.ErrForm, "00": api.ErrForm, "01": api.ErrForm, "007": api.ErrForm, "0255": api.ErrForm, "0256": api.ErrForm,
		"-1": api.ErrForm, "+1": api.ErrForm, "-0": api.ErrForm, " 1": api.ErrForm, "1 ": api.ErrForm, "\t1": api.ErrForm, "1\n": api.ErrForm,
		"x": api.ErrForm, "1x": api.ErrForm, "x1": api.ErrForm, "0x1": api.ErrForm, "1e1": api.ErrForm, "1_0": api.ErrForm, "1K": api.ErrForm,
		"1/8": api.ErrForm, "\x00": api.ErrForm, "\xff": api.ErrForm, "\u0661": api.ErrForm, "18446744073709551616x": api.ErrForm,
	}
}

// 31.1: the error is that of the first part that is wrong.
func TestWrongParts(t *testing.T) {
	errs := wrongParts()
	for s, err := range errs {
		for i := range 4 {
			parts := []string{"1", "2", "3", "4"}
			parts[i] = s
			a, e := Read(strings.Join(parts, "."))
			if e != err || err != api.OK && a != 0 {
				t.Errorf("Read of %.40q at %d is %d, %d, not %d", s, i, a, e, err)
			}
		}
	}
	few := []string{"7", "255", "256", "18446744073709551616", "", "01", "x"}
	for k := range 7 * 7 * 7 * 7 {
		var parts []string
		want := api.OK
		for range 4 {
			s := few[k%7]
			k /= 7
			parts = append(parts, s)
			if want == api.OK {
				want = errs[s]
			}
		}
		text := strings.Join(parts, ".")
		if a, err := Read(text); err != want || err != api.OK && a != 0 {
			t.Errorf("Read(%q) is %d, %d, not %d", text, a, err, want)
		}
	}
}

var decimal = regexp.MustCompile(`^(0|[1-9][0-9]*)\z`)

// readAs is Read, by the definition.
func readAs(s string) (uint32, api.Errno) {
	parts := strings.Split(s, ".")
	if len(parts) != 4 {
		return 0, api.ErrForm
	}
	var a uint32
	for _, part := range parts {
		if !decimal.MatchString(part) {
			return 0, api.ErrForm
		}
		n, _ := new(big.Int).SetString(part, 10)
		if n.Cmp(big.NewInt(255)) > 0 {
			return 0, api.ErrOver
		}
		a = a*256 + uint32(n.Int64())
	}
	return a, api.OK
}

// changed gives texts that are nearly s: with a byte that is missing, that is
// another one, or that is there once more.
func changed(s string) []string {
	var l []string
	for i := range s {
		l = append(l, s[:i]+s[i+1:])
		for _, b := range []string{"0", "1", "2", "5", "6", "9", ".", "/", " ", "-", "+", "x"} {
			l = append(l, s[:i]+b+s[i+1:], s[:i]+b+s[i:])
		}
		l = append(l, s+s[i:])
	}
	return l
}

// 31.1, 31.4
func TestReadNearly(t *testing.T) {
	for _, s := range []string{"0.0.0.0", "255.255.255.255", "1.2.3.4", "10.0.1.2", "192.168.0.100", "25.5.25.5"} {
		for _, s := range changed(s) {
			a, err := readAs(s)
			checkRead(t, s, a, err)
			if err == api.OK && Put(a) != s {
				t.Errorf("Put of Read(%q) is %q", s, Put(a))
			}
		}
	}
}

// 31.4
func TestReadInvertsPut(t *testing.T) {
	for _, a := range addresses() {
		checkRead(t, Put(a), a, api.OK)
	}
	next := random(7)
	for range 100000 {
		a := next()
		if got, err := Read(Put(a)); got != a || err != api.OK {
			t.Fatalf("Read(%q) is %d, %d, not %d", Put(a), got, err, a)
		}
	}
}

// 31.2
func TestMask(t *testing.T) {
	for bits, want := range map[int]uint32{
		-1: 0, -2: 0, math.MinInt: 0, -32: 0, -33: 0, 0: 0, 1: 1 << 31, 2: 3 << 30, 8: 255 << 24, 16: 65535 << 16, 24: last - 255,
		30: last - 3, 31: last - 1, 32: last, 33: last, 34: last, 64: last, 65: last, math.MaxInt: last, 1 << 32: last, -1 << 32: 0, 1<<32 + 8: last,
	} {
		if got := Mask(bits); got != want {
			t.Errorf("Mask(%d) is %x, not %x", bits, got, want)
		}
	}
	for bits := range 33 {
		want := strings.Repeat("1", bits) + strings.Repeat("0", 32-bits)
		if got := fmt.Sprintf("%032b", Mask(bits)); got != want {
			t.Errorf("Mask(%d) is %s", bits, got)
		}
	}
}

// first returns the bits that a prefix consists of, as text; false if it is not
// right.
func first(p api.Prefix) (string, bool) {
	if p.Bits < 0 || p.Bits > 32 {
		return "", false
	}
	all := fmt.Sprintf("%032b", p.Addr)
	return all[:p.Bits], !strings.Contains(all[p.Bits:], "1")
}

// prefixes are right and wrong ones.
func prefixes() []api.Prefix {
	l := []api.Prefix{
		{Addr: 0, Bits: -1}, {Addr: 0, Bits: 33}, {Addr: last, Bits: 33}, {Addr: last, Bits: -1}, {Addr: 0, Bits: 64},
		{Addr: 0, Bits: math.MinInt}, {Addr: last, Bits: math.MaxInt}, {Addr: 0, Bits: 1 << 32}, {Addr: 0, Bits: -32}, {Addr: 1 << 31, Bits: -31},
	}
	addresses := []uint32{0, last, 10 << 24, 10<<24 + 1<<16, 1 << 31, 0x55555555, 0xaaaaaaaa, 0x80000001}
	for bits := range 33 {
		for _, a := range addresses {
			mask := uint32(last) << (32 - bits)
			l = append(l, api.Prefix{Addr: a & mask, Bits: bits}, api.Prefix{Addr: a, Bits: bits})
			if bits < 32 {
				// The last bit of all that must be 0, and the first one.
				l = append(l, api.Prefix{Addr: a&mask | 1, Bits: bits}, api.Prefix{Addr: a&mask | 1<<(31-bits), Bits: bits})
			}
			if bits > 0 {
				l = append(l, api.Prefix{Addr: a&mask ^ 1<<(32-bits), Bits: bits}, api.Prefix{Addr: a&mask ^ 1<<31, Bits: bits})
			}
		}
	}
	return l
}

// 31.2
func TestRight(t *testing.T) {
	for _, x := range []struct {
		p    api.Prefix
		want bool
	}{
		{api.Prefix{}, true}, {api.Prefix{Bits: 32}, true}, {api.Prefix{Bits: 33}, false}, {api.Prefix{Bits: -1}, false},
		{api.Prefix{Addr: last, Bits: 32}, true}, {api.Prefix{Addr: last, Bits: 31}, false}, {api.Prefix{Addr: last - 1, Bits: 31}, true},
		{api.Prefix{Addr: 1, Bits: 31}, false}, {api.Prefix{Addr: 1, Bits: 0}, false}, {api.Prefix{Addr: 1 << 31, Bits: 0}, false},
		{api.Prefix{Addr: 1 << 31, Bits: 1}, true}, {api.Prefix{Addr: 1 << 30, Bits: 1}, false}, {api.Prefix{Addr: 10 << 24, Bits: 8}, true},
		{api.Prefix{Addr: 10<<24 + 1<<23, Bits: 8}, false}, {api.Prefix{Addr: 10 << 24, Bits: 6}, false}, {api.Prefix{Addr: 10 << 24, Bits: 7}, true},
		{api.Prefix{Addr: 10<<24 + 1, Bits: 8}, false}, {api.Prefix{Bits: math.MinInt}, false}, {api.Prefix{Bits: math.MaxInt}, false},
	} {
		if got := Right(x.p); got != x.want {
			t.Errorf("Right(%v) is %t", x.p, got)
		}
	}
	for _, p := range prefixes() {
		if _, want := first(p); Right(p) != want {
			t.Errorf("Right(%v) is %t", p, !want)
		}
	}
}

// 31.2
func TestHas(t *testing.T) {
	ten := api.Prefix{Addr: 10 << 24, Bits: 8}
	for _, x := range []struct {
		p    api.Prefix
		a    uint32
		want bool
	}{
		{ten, 10 << 24, true}, {ten, 11<<24 - 1, true}, {ten, 10<<24 - 1, false}, {ten, 11 << 24, false}, {ten, 0, false}, {ten, 10, false},
		{api.Prefix{}, 0, true}, {api.Prefix{}, last, true}, {api.Prefix{Addr: 7, Bits: 32}, 7, true}, {api.Prefix{Addr: 7, Bits: 32}, 6, false},
		{api.Prefix{Addr: 6, Bits: 31}, 7, true}, {api.Prefix{Addr: 6, Bits: 31}, 8, false}, {api.Prefix{Addr: 6, Bits: 31}, 5, false},
		{api.Prefix{Addr: 1 << 31, Bits: 1}, last, true}, {api.Prefix{Addr: 1 << 31, Bits: 1}, 1<<31 - 1, false},
		{api.Prefix{Bits: 33}, 0, false}, {api.Prefix{Bits: -1}, 0, false}, {api.Prefix{Addr: 1}, 1, false}, {api.Prefix{Addr: 7, Bits: 31}, 7, false},
	} {
		if got := Has(x.p, x.a); got != x.want {
			t.Errorf("Has(%v, %d) is %t", x.p, x.a, got)
		}
	}
	for _, p := range prefixes() {
		begin, right := first(p)
		for _, a := range []uint32{0, last, p.Addr, p.Addr + 1, p.Addr - 1, p.Addr ^ 1<<31, p.Addr | ^Mask(p.Bits), (p.Addr | ^Mask(p.Bits)) + 1, 10<<24 + 5, 0x55555555} {
			want := right && strings.HasPrefix(fmt.Sprintf("%032b", a), begin)
			if got := Has(p, a); got != want {
				t.Errorf("Has(%v, %d) is %t", p, a, got)
			}
		}
	}
}

// 31.2
func TestCovers(t *testing.T) {
	all, ten, one := api.Prefix{}, api.Prefix{Addr: 10 << 24, Bits: 8}, api.Prefix{Addr: 10<<24 + 1, Bits: 32}
	longer, other := api.Prefix{Addr: 10 << 24, Bits: 9}, api.Prefix{Addr: 10<<24 + 1<<23, Bits: 9}
	chain := []api.Prefix{all, ten, longer, {Addr: 10 << 24, Bits: 31}, one}
	for i, p := range chain {
		for k, q := range chain {
			if got := Covers(p, q); got != (i <= k) {
				t.Errorf("Covers(%v, %v) is %t", p, q, got)
			}
		}
	}
	if !Covers(ten, other) || Covers(longer, other) || Covers(other, longer) || Covers(other, one) || Covers(other, ten) {
		t.Error("Covers of prefixes with 9 bits")
	}
	for _, wrong := range []api.Prefix{{Bits: -1}, {Bits: 33}, {Addr: 1}, {Addr: 10<<24 + 1, Bits: 8}, {Addr: 1, Bits: 31}} {
		if Covers(wrong, wrong) || Covers(all, wrong) || Covers(wrong, one) || Covers(wrong, api.Prefix{Bits: 32}) || Covers(wrong, all) || Covers(ten, wrong) {
			t.Errorf("Covers of %v", wrong)
		}
	}
}

// 31.2, 31.5: whether a prefix has another one, of all pairs; and if none does,
// no address is had by both: neither their first nor their last ones are.
func TestPairs(t *testing.T) {
	l := prefixes()
	for _, p := range l {
		begin, right := first(p)
		for _, q := range l {
			other, ok := first(q)
			want := right && ok && strings.HasPrefix(other, begin)
			if got := Covers(p, q); got != want {
				t.Fatalf("Covers(%v, %v) is %t", p, q, got)
			}
			if !right || !ok {
				continue
			}
			met := false
			for _, a := range []uint32{p.Addr, q.Addr, p.Addr | ^Mask(p.Bits), q.Addr | ^Mask(q.Bits)} {
				met = met || Has(p, a) && Has(q, a)
			}
			if met != (Covers(p, q) || Covers(q, p)) {
				t.Fatalf("%v and %v", p, q)
			}
			if Covers(p, q) && Covers(q, p) && p != q {
				t.Fatalf("%v and %v cover each other", p, q)
			}
		}
	}
}

// 31.5, of all prefixes of few bits and all that their addresses begin with.
func TestOneCovers(t *testing.T) {
	var l []api.Prefix
	for bits := range 6 {
		for n := range uint32(1) << bits {
			l = append(l, api.Prefix{Addr: n << 1 << (31 - bits), Bits: bits})
		}
	}
	for _, p := range l {
		if !Right(p) {
			t.Fatalf("%v is not right", p)
		}
		for _, q := range l {
			met, within := false, true
			for n := range uint32(32) {
				a := n<<27 + n*12345
				met = met || Has(p, a) && Has(q, a)
				within = within && (Has(p, a) || !Has(q, a))
			}
			if met != (Covers(p, q) || Covers(q, p)) || within != Covers(p, q) {
				t.Errorf("%v and %v: %t, %t", p, q, met, within)
			}
		}
	}
}

// checkReadPrefix tells whether a prefix, or an error, is read.
func checkReadPrefix(t *testing.T, s string, p api.Prefix, err api.Errno) {
	t.Helper()
	if got, e := ReadPrefix(s); got != p || e != err {
		t.Errorf("ReadPrefix(%.60q) is %v, %d, not %v, %d", s, got, e, p, err)
	}
}

// 31.3
func TestPutPrefix(t *testing.T) {
	for want, p := range map[string]api.Prefix{
		"0.0.0.0/0": {}, "0.0.0.0/32": {Bits: 32}, "0.0.0.0/1": {Bits: 1}, "128.0.0.0/1": {Addr: 1 << 31, Bits: 1},
		"255.255.255.255/32": {Addr: last, Bits: 32}, "255.255.255.254/31": {Addr: last - 1, Bits: 31}, "10.0.0.0/8": {Addr: 10 << 24, Bits: 8},
		"10.1.0.0/16": {Addr: 10<<24 + 1<<16, Bits: 16}, "10.0.0.0/7": {Addr: 10 << 24, Bits: 7}, "10.0.0.0/9": {Addr: 10 << 24, Bits: 9},
	} {
		if s, err := PutPrefix(p); s != want || err != api.OK {
			t.Errorf("PutPrefix(%v) is %q, %d", p, s, err)
		}
		checkReadPrefix(t, want, p, api.OK)
	}
	for _, p := range []api.Prefix{{Bits: -1}, {Bits: 33}, {Addr: 1}, {Addr: 1, Bits: 31}, {Addr: last, Bits: 31}, {Addr: 10 << 24, Bits: 6}, {Bits: math.MinInt}, {Bits: math.MaxInt}} {
		if s, err := PutPrefix(p); s != "" || err != api.ErrArg {
			t.Errorf("PutPrefix(%v) is %q, %d", p, s, err)
		}
	}
}

// 31.3: without exactly one slash, nothing else is examined.
func TestSlashes(t *testing.T) {
	for _, s := range []string{
		"", "10.0.0.0", "10.0.0.0/8/8", "10.0.0.0//8", "/10.0.0.0/8", "10.0.0.0/8/", "//", "///", "10.0.0.256", "256.0.0.0/33/1", "10.0.0.0\\8",
		"10.0.0.0 8", "10.0.0.1/8/0", "0.0.0.0/18446744073709551616/", strings.Repeat("/", 1<<20),
	} {
		checkReadPrefix(t, s, api.Prefix{}, api.ErrForm)
	}
}

// 31.3: which error comes first: that of the part before the slash, that of the
// part behind it, that of the prefix.
func TestReadPrefixErrors(t *testing.T) {
	for s, err := range map[string]api.Errno{
		"/": api.ErrForm, "/8": api.ErrForm, "10.0.0.0/": api.ErrForm, "10.0.0/8": api.ErrForm, "10.0.0.0.0/8": api.ErrForm,
		"x/33": api.ErrForm, "10.0.0/33": api.ErrForm, "10.0.0.x/33": api.ErrForm, "10.0.0.256/x": api.ErrOver, "10.0.0.256/": api.ErrOver,
		"10.0.0.256/8": api.ErrOver, "256.0.0.x/08": api.ErrOver, "x.0.0.256/40": api.ErrForm, "10.0.0.01/8": api.ErrForm,
		"10.0.0.0/33": api.ErrOver, "10.0.0.0/34": api.ErrOver, "10.0.0.0/64": api.ErrOver, "10.0.0.0/100": api.ErrOver, "10.0.0.0/256": api.ErrOver,
		"10.0.0.0/4294967304": api.ErrOver, "10.0.0.0/18446744073709551615": api.ErrOver, "10.0.0.0/18446744073709551616": api.ErrOver,
		"10.0.0.0/08": api.ErrForm, "10.0.0.0/00": api.ErrForm, "10.0.0.0/032": api.ErrForm, "10.0.0.0/033": api.ErrForm, "0.0.0.0/00": api.ErrForm,
		"10.0.0.0/-1": api.ErrForm, "10.0.0.0/+8": api.ErrForm, "10.0.0.0/ 8": api.ErrForm, "10.0.0.0/8 ": api.ErrForm, "10.0.0.0 /8": api.ErrForm,
		" 10.0.0.0/8": api.ErrForm, "10.0.0.0/8x": api.ErrForm, "10.0.0.0/8.": api.ErrForm, "10.0.0.0/255.0.0.0": api.ErrForm, "10.0.0.0/\x00": api.ErrForm,
		"10.1.2.0/16": api.ErrArg, "10.0.0.0/6": api.ErrArg, "10.0.0.0/0": api.ErrArg, "0.0.0.1/31": api.ErrArg, "0.0.0.1/0": api.ErrArg,
		"255.255.255.255/31": api.ErrArg, "10.128.0.0/8": api.ErrArg, "128.0.0.0/0": api.ErrArg, "10.1.2.1/33": api.ErrOver, "10.1.2.1/x": api.ErrForm,
		"10.1.2": api.ErrForm, // the chapter's example
	} {
		checkReadPrefix(t, s, api.Prefix{}, err)
	}
}

// 31.1 to 31.3, the chapter's examples.
func TestExamples(t *testing.T) {
	p, err := ReadPrefix("10.1.0.0/16")
	a, e := Read("10.1.2.3")
	if err != api.OK || e != api.OK || !Has(p, a) {
		t.Errorf("%v, %d; %d, %d", p, err, a, e)
	}
	checkReadPrefix(t, "10.1.2.0/16", api.Prefix{}, api.ErrArg)
	checkRead(t, "10.1.2", 0, api.ErrForm)
}

// 31.3: all numbers of bits, of addresses that end with each number of zeros.
func TestBits(t *testing.T) {
	for zeros := range 33 {
		a := uint32(1) << zeros
		if zeros == 32 {
			a = 0
		}
		for bits := range 40 {
			p, err := api.Prefix{Addr: a, Bits: bits}, api.OK
			switch {
			case bits > 32:
				p, err = api.Prefix{}, api.ErrOver
			case bits < 32-zeros:
				p, err = api.Prefix{}, api.ErrArg
			}
			checkReadPrefix(t, Put(a)+"/"+strconv.Itoa(bits), p, err)
		}
	}
}

// 31.4, and what is nearly the text of a prefix.
func TestReadPrefixInvertsPut(t *testing.T) {
	for _, p := range prefixes() {
		s, err := PutPrefix(p)
		if _, right := first(p); right != (err == api.OK) {
			t.Errorf("PutPrefix(%v) is %q, %d", p, s, err)
		} else if right {
			checkReadPrefix(t, s, p, api.OK)
		}
	}
	for _, s := range []string{"0.0.0.0/0", "255.255.255.255/32", "10.0.0.0/8", "10.128.0.0/9", "192.168.0.0/16", "0.0.0.2/31"} {
		for _, s := range changed(s) {
			p, err := ReadPrefix(s)
			before, after, ok := strings.Cut(s, "/")
			a, e := readAs(before)
			if !ok || strings.Contains(after, "/") {
				e = api.ErrForm
			}
			if e != api.OK && (err != e || p != (api.Prefix{})) {
				t.Errorf("ReadPrefix(%q) is %v, %d, not %d", s, p, err, e)
			}
			if again, _ := PutPrefix(p); err == api.OK && (again != s || p.Addr != a) {
				t.Errorf("ReadPrefix(%q) is %v, which is %q", s, p, again)
			}
		}
	}
}

// P2: no call leaves anything behind.
func TestAgain(t *testing.T) {
	for range 2 {
		checkRead(t, "1.2.3.4", 1<<24+2<<16+3<<8+4, api.OK)
		checkRead(t, "1.2.3.x", 0, api.ErrForm)
		checkRead(t, "0.0.0.0", 0, api.OK)
		checkReadPrefix(t, "1.2.3.4/32", api.Prefix{Addr: 1<<24 + 2<<16 + 3<<8 + 4, Bits: 32}, api.OK)
		checkReadPrefix(t, "1.2.3.4/33", api.Prefix{}, api.ErrOver)
		if Put(5) != "0.0.0.5" || Mask(1) != 1<<31 || !Right(api.Prefix{}) || !Has(api.Prefix{}, 5) {
			t.Error("Put, Mask, Right or Has changed")
		}
	}
}
