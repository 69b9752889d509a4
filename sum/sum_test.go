package sum

import (
	"encoding/binary"
	"hash/adler32"
	"strings"
	"testing"
)

// row gives n bytes, the same ones in every run.
func row(n int, seed uint64) []byte {
	l := make([]byte, n)
	for i := range l {
		seed = seed*6364136223846793005 + 1442695040888963407
		l[i] = byte(seed >> 56)
	}
	return l
}

// words gives numbers below 65536: those near which a sum could go wrong, and
// others.
func words() []uint16 {
	l := []uint16{0, 1, 2, 127, 128, 255, 256, 257, 32767, 32768, 32769, 65279, 65280, 65520, 65521, 65533, 65534, 65535}
	for i := range 40 {
		l = append(l, uint16(i*i*31+i*7))
	}
	return l
}

// inet is Inet with the sum folded at the end: a ring sum is 0 only if all
// words are.
func inet(s string) uint16 {
	total := 0
	for i := range len(s) {
		if i%2 == 0 {
			total += int(s[i]) * 256
		} else {
			total += int(s[i])
		}
	}
	if total == 0 {
		return 65535
	}
	return uint16(65535 - ((total-1)%65535 + 1))
}

func checkInet(t *testing.T, s string, want uint16) {
	t.Helper()
	if got := Inet(s); got != want {
		t.Errorf("Inet of %d bytes %.20q is %d, not %d", len(s), s, got, want)
	}
}

// 5.1
func TestInet(t *testing.T) {
	checkInet(t, "\x00\x01\x00\x02", 65532)
	checkInet(t, "\x00\x01", 65534)
	checkInet(t, "\x01\x00", 65279)
	checkInet(t, "\xff\xff", 0)
	checkInet(t, "\xff\xfe", 1)
	checkInet(t, "\xff\xff\x00\x00", 0)
	checkInet(t, "\x00\x00\xff\xff", 0)
	checkInet(t, "\xff\xff\xff\xff", 0)
	checkInet(t, "\xff\xff\x00\x01", 65534)
	checkInet(t, "\xff\xfe\x00\x01", 0)
	checkInet(t, "\x80\x00\x80\x00", 65534)
	checkInet(t, "\xff\xff\xff\xff\xff\xff\x00\x05", 65530)
}

// 5.1, no byte, a single last byte, bytes that are all 0.
func TestInetEnds(t *testing.T) {
	checkInet(t, "", 65535)
	checkInet(t, "\x01", 65279)
	checkInet(t, "\xff", 255)
	checkInet(t, "\x00\x01\x02", 65022)
	checkInet(t, "\xff\xff\xff", 255)
	checkInet(t, "\xff\xff\x00", 0)
	for n := range 20 {
		checkInet(t, strings.Repeat("\x00", n), 65535)
	}
}

// 5.1
func TestInetLong(t *testing.T) {
	for n := range 300 {
		s := string(row(n, uint64(n)))
		checkInet(t, s, inet(s))
		s = strings.Repeat("\xff", n)
		checkInet(t, s, inet(s))
	}
	for _, n := range []int{65535, 65536, 200001, 1 << 20} {
		s := string(row(n, uint64(n)))
		checkInet(t, s, inet(s))
		s = strings.Repeat("\xff", n)
		checkInet(t, s, inet(s))
	}
}

// ringSum is a sum that stays below 65536, as the document says it.
func ringSum(a, b int) int {
	if a+b >= 65536 {
		return a + b - 65535
	}
	return a + b
}

// 5.1
func TestUpdate(t *testing.T) {
	for _, x := range [][4]uint16{
		{65532, 2, 5, 65529}, {65534, 1, 0, 0}, {65535, 0, 0, 0}, {65535, 0, 1, 65534}, {0, 65535, 0, 0},
		{0, 65535, 65535, 0}, {0, 65535, 1, 65534}, {0, 0, 0, 0}, {0, 0, 65535, 0}, {65535, 65535, 0, 65535}, {65535, 65535, 65535, 0},
	} {
		if got := Update(x[0], x[1], x[2]); got != x[3] {
			t.Errorf("Update(%d, %d, %d) is %d, not %d", x[0], x[1], x[2], got, x[3])
		}
	}
	for _, sum := range words() {
		for _, was := range words() {
			for _, is := range words() {
				want := 65535 - ringSum(ringSum(65535-int(sum), 65535-int(was)), int(is))
				if got := Update(sum, was, is); int(got) != want {
					t.Errorf("Update(%d, %d, %d) is %d, not %d", sum, was, is, got, want)
				}
			}
		}
	}
}

// rows gives byte strings: some have sums that are 0 or 65535.
func rows() []string {
	l := []string{
		"\x00\x00", "\xff\xff", "\x00\x00\x00\x00", "\xff\xff\xff\xff", "\x00\x00\xff\xff\x00", "\x80\x00\x7f\xff",
		"\x00\x01\xff\xfe", "\x00\x00\x00", "ab", "abc", strings.Repeat("\x00", 20),
	}
	for n := 2; n < 30; n++ {
		l = append(l, string(row(n, uint64(n))))
	}
	return l
}

// put gives s with another word at i.
func put(s string, i int, w uint16) string {
	b := []byte(s)
	binary.BigEndian.PutUint16(b[i:], w)
	return string(b)
}

// 5.4
func TestUpdateIsInet(t *testing.T) {
	for _, s := range rows() {
		for i := 0; i+1 < len(s); i += 2 {
			was := binary.BigEndian.Uint16([]byte(s[i:]))
			for _, is := range words() {
				next := put(s, i, is)
				want := Inet(next)
				if strings.Trim(next, "\x00") == "" {
					checkInet(t, next, 65535)
					want = 0
				}
				if got := Update(Inet(s), was, is); got != want {
					t.Errorf("Update for %q with %d at %d is %d, not %d", s, is, i, got, want)
				}
			}
		}
	}
}

// 5.5
func TestInetWithin(t *testing.T) {
	for _, s := range rows() {
		for i := 0; i+1 < len(s); i += 2 {
			bare := put(s, i, 0)
			checkInet(t, put(bare, i, Inet(bare)), 0)
		}
	}
}

func checkMore(t *testing.T, sum uint32, s string, want uint32) {
	t.Helper()
	if got := More(sum, s); got != want {
		t.Errorf("More(%#x, %d bytes %.20q) is %#x, not %#x", sum, len(s), s, got, want)
	}
}

// 5.2
func TestMore(t *testing.T) {
	checkMore(t, 1, "a", 98<<16+98)
	checkMore(t, 1, "", 1)
	checkMore(t, 0, "", 0)
	checkMore(t, 0, "\x00\x00", 0)
	checkMore(t, 1, "\x00\x00\x00", 3<<16+1)
	checkMore(t, 5, "\x01\x02", (6+8)<<16+8)
}

// 5.2, at sums of 65520 and above, and halves that no checksum has.
func TestMoreWraps(t *testing.T) {
	checkMore(t, 65520, "", 65520)
	checkMore(t, 65520<<16|65520, "", 65520<<16|65520)
	checkMore(t, 65521<<16|65521, "", 0)
	checkMore(t, 65522<<16|65535, "", 1<<16|14)
	checkMore(t, 1<<32-1, "", 14<<16|14)
	checkMore(t, 65520, "\x00", 65520<<16|65520)
	checkMore(t, 65519, "\x01", 65520<<16|65520)
	checkMore(t, 65520, "\x01", 0)
	checkMore(t, 65520, "\x02", 1<<16|1)
	checkMore(t, 65520<<16, "\x01", 1)
	checkMore(t, 65520<<16, "\x02", 1<<16|2)
	checkMore(t, 65520<<16|65520, "\xff", 253<<16|254)
	checkMore(t, 65521<<16|65521, "\x03", 3<<16|3)
	checkMore(t, 1<<32-1, "\x01", 29<<16|15)
}

// 5.2
func TestMoreOfMore(t *testing.T) {
	s := string(row(3000, 3))
	for i := 0; i <= len(s); i += 7 {
		checkMore(t, More(1, s[:i]), s[i:], Of(s))
	}
	for _, sum := range []uint32{0, 1, 65520, 65521, 65535, 65536, 65520 << 16, 1<<32 - 1} {
		low, high := uint64(sum%65536)%65521, uint64(sum/65536)%65521
		for i := range len(s) / 2 {
			checkMore(t, sum, s[:i], uint32(high<<16|low))
			low = (low + uint64(s[i])) % 65521
			high = (high + low) % 65521
		}
	}
}

// 5.2
func TestOf(t *testing.T) {
	for _, parts := range [][]string{{"abc"}, {"a", "", "bc"}, {"", "abc"}, {"ab", "c", "", ""}, {"a", "b", "c"}} {
		if got := Of(parts...); got != 38600999 {
			t.Errorf("Of %q is %d", parts, got)
		}
	}
	if Of() != 1 || Of("") != 1 || Of("", "") != 1 {
		t.Error("the checksum of nothing is not 1")
	}
	for _, n := range []int{1, 2, 255, 256, 257, 5551, 5552, 5553, 65536, 300000} {
		for _, b := range [][]byte{row(n, uint64(n)), []byte(strings.Repeat("\xff", n)), make([]byte, n)} {
			if got, want := Of(string(b)), adler32.Checksum(b); got != want {
				t.Errorf("Of %d bytes is %#x, not %#x", n, got, want)
			}
			if got, want := Of(string(b[:n/3]), string(b[n/3:])), adler32.Checksum(b); got != want {
				t.Errorf("Of %d bytes in parts is %#x, not %#x", n, got, want)
			}
		}
	}
}

// 5.6
func TestOneByte(t *testing.T) {
	for _, s := range append(rows(), string(row(2000, 1)), strings.Repeat("\xff", 300)) {
		b := []byte(s)
		for i := 0; i < len(b); i += 1 + len(b)/50 {
			was := b[i]
			for x := range 256 {
				b[i] = byte(x)
				if (Of(string(b)) == Of(s)) != (b[i] == was) {
					t.Errorf("%.20q with %d at %d: the same checksum", s, x, i)
				}
			}
			b[i] = was
		}
	}
}

func checkOpen(t *testing.T, s, want string, ok bool) {
	t.Helper()
	if got, is := Open(s); got != want || is != ok {
		t.Errorf("Open of %d bytes %.20q is %.20q, %t", len(s), s, got, is)
	}
}

// 5.3
func TestSeal(t *testing.T) {
	if got := Seal("abc"); got != "abc\x02\x4d\x01\x27" {
		t.Errorf("Seal is %q", got)
	}
	if got := Seal(""); got != "\x00\x00\x00\x01" {
		t.Errorf("Seal of nothing is %q", got)
	}
	checkOpen(t, "abc\x02\x4d\x01\x27", "abc", true)
	checkOpen(t, "\x00\x00\x00\x01", "", true)
	for _, s := range append(rows(), "\x00\x00\x00\x01", string(row(100000, 9))) {
		if got := Seal(s); got != s+string(binary.BigEndian.AppendUint32(nil, Of(s))) {
			t.Errorf("Seal of %.20q is %.20q", s, got)
		}
		checkOpen(t, Seal(s), s, true)
		checkOpen(t, Seal(Seal(s)), Seal(s), true)
	}
}

// 5.3, of less than four bytes, and of bytes that were cut or that came later.
func TestOpenShort(t *testing.T) {
	for _, s := range []string{"", "\x00", "\x00\x00", "\x00\x00\x01", "\x01", "abc"} {
		checkOpen(t, s, "", false)
	}
	checkOpen(t, "\x00\x00\x00\x00", "", false)
	checkOpen(t, "\x01\x00\x00\x00", "", false)
	checkOpen(t, "\x00\x01\x00\x00", "", false)
	sealed := Seal("abcdef")
	for n := range len(sealed) {
		checkOpen(t, sealed[:n], "", false)
	}
	checkOpen(t, sealed+"\x00", "", false)
	checkOpen(t, "\x00"+sealed, "", false)
	checkOpen(t, sealed[1:], "", false)
}

// 5.3, a changed byte, within what was sealed or within the checksum; also a
// checksum with a half that is the same modulo 65521.
func TestOpenChanged(t *testing.T) {
	for _, s := range rows() {
		b := []byte(Seal(s))
		for i := range b {
			for _, by := range []byte{1, 128, 255} {
				b[i] ^= by
				checkOpen(t, string(b), "", false)
				b[i] ^= by
			}
		}
	}
	checkOpen(t, "\x00\x00\xff\xf2", "", false)
	checkOpen(t, "\xff\xf1\x00\x01", "", false)
}

// P2: a call leaves nothing behind.
func TestAgain(t *testing.T) {
	parts := []string{"a", "bc"}
	for range 2 {
		if Of(parts...) != 38600999 || More(1, "abc") != 38600999 || parts[0] != "a" || parts[1] != "bc" {
			t.Error("Of or More changed")
		}
		if Inet("ab") != 65535-'a'<<8-'b' || Update(7, 7, 7) != 7 || Seal("") != "\x00\x00\x00\x01" {
			t.Error("Inet, Update or Seal changed")
		}
		checkOpen(t, "abd\x02\x4d\x01\x27", "", false)
		checkOpen(t, "abc\x02\x4d\x01\x27", "abc", true)
	}
}
