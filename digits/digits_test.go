package digits

import (
	"math/big"
	"regexp"
	"slices"
	"strings"
	"testing"

	"pacemaker/api"
)

const most = api.MaxU64

// numbers are numbers of all lengths, with those near which a digit, a unit or
// a cap could go wrong.
func numbers() []uint64 {
	var l []uint64
	for n := uint64(1); ; n *= 10 {
		l = append(l, n-1, n, n+1, 7*(n/10), 15*(n/100))
		if n > most/10 {
			break
		}
	}
	x := uint64(1)
	for i := range 2000 {
		x = x*6364136223846793005 + 1442695040888963407
		n := (x ^ x>>29) >> (i % 64)
		l = append(l, n, n-n%1000, n-n%1000000, n-n%1000000000)
	}
	return append(l, most-most%1000000000, most-most%1000, most-1, most)
}

// texts calls f with every text of at most n bytes of the alphabet.
func texts(alphabet string, n int, f func(s string)) {
	f("")
	if n == 0 {
		return
	}
	for i := range len(alphabet) {
		texts(alphabet, n-1, func(s string) { f(alphabet[i:i+1] + s) })
	}
}

func checkRead(t *testing.T, s string, n uint64, err api.Errno) {
	t.Helper()
	if got, e := Read(s); got != n || e != err {
		t.Errorf("Read(%q) is %d, %d, not %d, %d", s, got, e, n, err)
	}
}

func checkUnit(t *testing.T, s string, n uint64, err api.Errno) {
	t.Helper()
	if got, e := ReadUnit(s); got != n || e != err {
		t.Errorf("ReadUnit(%q) is %d, %d, not %d, %d", s, got, e, n, err)
	}
}

// 3.1
func TestPut(t *testing.T) {
	for n, s := range map[uint64]string{0: "0", 9: "9", 10: "10", 1 << 63: "9223372036854775808", most: "18446744073709551615"} {
		if got := Put(n); got != s {
			t.Errorf("Put(%d) is %q", n, got)
		}
	}
	for _, n := range numbers() {
		if got := Put(n); got != new(big.Int).SetUint64(n).String() {
			t.Errorf("Put(%d) is %q", n, got)
		}
	}
}

// 3.1
func TestReadNumbers(t *testing.T) {
	checkRead(t, "0", 0, api.OK)
	checkRead(t, "9", 9, api.OK)
	checkRead(t, "10", 10, api.OK)
	checkRead(t, "1000", 1000, api.OK)
	checkRead(t, "9223372036854775808", 1<<63, api.OK)
	checkRead(t, "18446744073709551614", most-1, api.OK)
	checkRead(t, "18446744073709551615", most, api.OK)
}

// 3.1, a text without the form of a decimal.
func TestReadForm(t *testing.T) {
	for _, s := range []string{
		"", "00", "007", "01", "0000000000000000000000", "018446744073709551615",
		"-1", "+1", "-0", "+", "-", " 1", "1 ", "1\t", "1\n", "1 2", "1_000", "1,0", "1.0", ".", "1e3",
		"0x10", "0b1", "0o7", "a", "1a", "a1", "1K", "K", "/", ":", "1/", "1:", "\x00", "1\x00", "\xff", "1\xff",
		"\u0661", "\uff11", "1\u0661", "\u00b2",
	} {
		checkRead(t, s, 0, api.ErrForm)
	}
}

// 3.1: the form is looked at first, whatever the number is.
func TestReadOver(t *testing.T) {
	for _, s := range []string{
		"18446744073709551616", "18446744073709551620", "18446744073709551700", "20000000000000000000",
		"99999999999999999999", "100000000000000000000", "36893488147419103232", "184467440737095516150",
		"1" + strings.Repeat("0", 5000), strings.Repeat("9", 300),
	} {
		checkRead(t, s, 0, api.ErrOver)
		checkRead(t, s+"x", 0, api.ErrForm)
		checkRead(t, "x"+s, 0, api.ErrForm)
		checkRead(t, "0"+s, 0, api.ErrForm)
	}
}

// 3.2
func TestPutUnit(t *testing.T) {
	for n, s := range map[uint64]string{
		0: "0", 1: "1", 999: "999", 1000: "1K", 1001: "1001", 1500: "1500", 10000: "10K",
		999000: "999K", 1000000: "1M", 1001000: "1001K", 1500000: "1500K", 1000001: "1000001",
		999000000: "999M", 1000000000: "1G", 1000000000000: "1000G", 1000001000: "1000001K", 1001000000: "1001M",
		18446744073000000000: "18446744073G", 18446744073709000000: "18446744073709M", 18446744073709551000: "18446744073709551K",
		most: "18446744073709551615",
	} {
		if got := PutUnit(n); got != s {
			t.Errorf("PutUnit(%d) is %q, not %q", n, got, s)
		}
	}
}

// 3.2
func TestReadUnit(t *testing.T) {
	for _, s := range []string{"0", "0K", "0M", "0G"} {
		checkUnit(t, s, 0, api.OK)
	}
	checkUnit(t, "7", 7, api.OK)
	checkUnit(t, "7K", 7000, api.OK)
	checkUnit(t, "2M", 2000000, api.OK)
	checkUnit(t, "1500K", 1500000, api.OK)
	checkUnit(t, "1000K", 1000000, api.OK)
	checkUnit(t, "3G", 3000000000, api.OK)
	checkUnit(t, "18446744073709551615", most, api.OK)
}

// 3.2, at the greatest number that fits with each unit, and above it.
func TestReadUnitOver(t *testing.T) {
	for _, x := range []struct {
		unit string
		size uint64
	}{{"", 1}, {"K", 1000}, {"M", 1000000}, {"G", 1000000000}} {
		n := most / x.size
		checkUnit(t, Put(n)+x.unit, n*x.size, api.OK)
		above := new(big.Int).SetUint64(n)
		above.Add(above, big.NewInt(1))
		checkUnit(t, above.String()+x.unit, 0, api.ErrOver)
		checkUnit(t, Put(n)+"0"+x.unit, 0, api.ErrOver)
		checkUnit(t, "18446744073709551616"+x.unit, 0, api.ErrOver)
	}
	for _, s := range []string{"18446744073709551615K", "18446744073709551615M", "18446744073709551615G", "9223372036854775808K"} {
		checkUnit(t, s, 0, api.ErrOver)
	}
}

// 3.2: the errors of Read, of what is left without the unit.
func TestReadUnitForm(t *testing.T) {
	for _, s := range []string{
		"", "K", "M", "G", "KK", "1KK", "1KM", "1GK", "K1", "1k", "1m", "1g", "1T", "1B", "1KB", "1 K", "1K ", " 1K",
		"007", "00K", "01K", "-1K", "+1G", "1.5K", "18446744073709551616KK", "018446744073709551616K",
	} {
		checkUnit(t, s, 0, api.ErrForm)
	}
}

// 3.3
func TestWords(t *testing.T) {
	for _, x := range []struct {
		s    string
		want []string
	}{
		{"", nil}, {" ", nil}, {"\t", nil}, {" \t \t", nil},
		{"a", []string{"a"}}, {"ab", []string{"ab"}},
		{"a b", []string{"a", "b"}}, {"a\tb", []string{"a", "b"}}, {"a \t b", []string{"a", "b"}},
		{" a", []string{"a"}}, {"\ta", []string{"a"}}, {"a ", []string{"a"}}, {"a\t", []string{"a"}},
		{"\t in  1\t7 5 \t", []string{"in", "1", "7", "5"}},
		{"a\nb", []string{"a\nb"}}, {"\r\n", []string{"\r\n"}}, {"\v\f", []string{"\v\f"}}, {"\x00 \x00", []string{"\x00", "\x00"}},
		{"a\u00a0b", []string{"a\u00a0b"}}, {"\u2003", []string{"\u2003"}}, {"\u3000 \u0085", []string{"\u3000", "\u0085"}},
		{"\xff\xfe \x80", []string{"\xff\xfe", "\x80"}}, {"\x20\x09\x21\x1f", []string{"\x21\x1f"}}, {"\x08\x0a\x0b", []string{"\x08\x0a\x0b"}},
		{"a a a", []string{"a", "a", "a"}},
	} {
		if got := Words(x.s); !slices.Equal(got, x.want) {
			t.Errorf("Words(%q) are %q", x.s, got)
		}
	}
}

// 3.3
func TestWordsOfAll(t *testing.T) {
	word := regexp.MustCompile("[^ \t]+")
	texts(" \tab\n\xa0", 5, func(s string) {
		if got := Words(s); !slices.Equal(got, word.FindAllString(s, -1)) {
			t.Errorf("Words(%q) are %q", s, got)
		}
	})
	long := strings.Repeat("ab\t c ", 50000)
	if got := Words(long); len(got) != 100000 || got[99998] != "ab" || got[99999] != "c" {
		t.Errorf("%d words of a long text", len(got))
	}
}

// 3.3
func TestJoin(t *testing.T) {
	for _, x := range []struct {
		l    []string
		want string
	}{
		{nil, ""}, {[]string{}, ""}, {[]string{""}, ""}, {[]string{"", ""}, " "}, {[]string{"", "", ""}, "  "},
		{[]string{"a"}, "a"}, {[]string{"a", "b"}, "a b"}, {[]string{"a", "", "b"}, "a  b"}, {[]string{"", "a"}, " a"}, {[]string{"a", ""}, "a "},
		{[]string{" a\t", "b c"}, " a\t b c"}, {[]string{"\xff", "\x00"}, "\xff \x00"},
	} {
		if got := Join(x.l...); got != x.want {
			t.Errorf("Join of %q is %q", x.l, got)
		}
	}
	if got := Join(); got != "" {
		t.Errorf("Join of nothing is %q", got)
	}
}

// 3.4
func TestReadInvertsPut(t *testing.T) {
	for _, n := range numbers() {
		checkRead(t, Put(n), n, api.OK)
		checkUnit(t, PutUnit(n), n, api.OK)
		checkUnit(t, Put(n), n, api.OK)
	}
}

// 3.2: no greater unit goes into what PutUnit took one out of.
func TestPutUnitGreatest(t *testing.T) {
	for _, n := range numbers() {
		want := Put(n)
		for _, x := range []struct {
			unit string
			zero string
		}{{"K", "000"}, {"M", "000000"}, {"G", "000000000"}} {
			if s, ok := strings.CutSuffix(Put(n), x.zero); ok && n != 0 {
				want = s + x.unit
			}
		}
		if got := PutUnit(n); got != want {
			t.Errorf("PutUnit(%d) is %q, not %q", n, got, want)
		}
	}
}

// 3.1, 3.2, 3.4, of all short texts.
func TestReadAll(t *testing.T) {
	decimal := regexp.MustCompile(`^(0|[1-9][0-9]*)\z`)
	withUnit := regexp.MustCompile(`^(0|[1-9][0-9]*)[KMG]?\z`)
	texts("019KMGa -", 5, func(s string) {
		n, err := Read(s)
		if (err == api.OK) != decimal.MatchString(s) || err == api.OK && Put(n) != s {
			t.Errorf("Read(%q) is %d, %d", s, n, err)
		}
		n, err = ReadUnit(s)
		if (err == api.OK) != withUnit.MatchString(s) || err != api.OK && (n != 0 || err != api.ErrForm) {
			t.Errorf("ReadUnit(%q) is %d, %d", s, n, err)
		}
	})
}

// 3.5
func TestWordsInvertJoin(t *testing.T) {
	var words []string
	texts("a\n\x00\xff", 3, func(s string) {
		if s != "" {
			words = append(words, s)
		}
	})
	for i := range words {
		for n := range min(6, len(words)-i) {
			l := words[i : i+n]
			if got := Words(Join(l...)); !slices.Equal(got, l) {
				t.Errorf("the words of Join of %q are %q", l, got)
			}
		}
	}
	if got := Words(Join(words...)); !slices.Equal(got, words) {
		t.Errorf("the words of Join of all are %q", got)
	}
}

// P2: no call changes what it is given, or what a later one returns.
func TestAgain(t *testing.T) {
	first := Words("a b c")
	first[0], first[1], first[2] = "x", "y", "z"
	if got := Words("a b c"); !slices.Equal(got, []string{"a", "b", "c"}) {
		t.Errorf("the second words are %q", got)
	}
	l := []string{"a", " b", ""}
	for range 2 {
		if got := Join(l...); got != "a  b " || !slices.Equal(l, []string{"a", " b", ""}) {
			t.Errorf("Join is %q, of %q", got, l)
		}
		checkUnit(t, "5M", 5000000, api.OK)
		checkUnit(t, "x", 0, api.ErrForm)
		checkRead(t, "99999999999999999999", 0, api.ErrOver)
		checkRead(t, "12", 12, api.OK)
		if Put(12) != "12" || PutUnit(12000) != "12K" {
			t.Error("Put or PutUnit changed")
		}
	}
}
