package script

import (
	"slices"
	"strings"
	"testing"

	"pacemaker/api"
)

// 41.2: the chapter's example.
func TestExample(t *testing.T) {
	checkGives(t, "in 1 7 2K", enqueue(1, 7, 2000))
	checkRefuses(t, "in 1 7", 1, api.ErrLine)
}

// 41.1: the lines of each kind, written by hand.
func TestPutLines(t *testing.T) {
	checkPut(t, "", api.OK)
	checkPut(t, "", api.OK, []api.Op{}...)
	checkPut(t, "in 1 2 3\n", api.OK, enqueue(1, 2, 3))
	checkPut(t, "in 0 0 0\n", api.OK, enqueue(0, 0, 0))
	checkPut(t, "in 4294967295 4294967295 18446744073709551615\n", api.OK, enqueue(last, last, most))
	checkPut(t, "in 1000 2000000 3000000000\n", api.OK, enqueue(1000, 2000000, 3000000000))
	checkPut(t, "out\n", api.OK, dequeue)
	checkPut(t, "tick 0\n", api.OK, ticks(0))
	checkPut(t, "tick 5000\n", api.OK, ticks(5000))
	checkPut(t, "tick 18446744073709551615\n", api.OK, ticks(most))
	checkPut(t, "stats\n", api.OK, tell)
	checkPut(t, "junk 0\n", api.OK, junkOf(0))
	checkPut(t, "junk 5\n", api.OK, junkOf(5))
	checkPut(t, "junk 255\n", api.OK, junkOf(255))
	checkPut(t, "out\nin 9 8 7\nstats\njunk 32\ntick 1\nout\nout\n", api.OK, dequeue, enqueue(9, 8, 7), tell, junkOf(32), ticks(1), dequeue, dequeue)
}

// 41.1 and 41.3: many values of each field, alone and many of them.
func TestPut(t *testing.T) {
	l := some()
	for i, x := range l {
		checkPut(t, lineOf(x)+"\n", api.OK, x)
		checkPut(t, linesOf(x, x), api.OK, x, x)
		checkPut(t, linesOf(l[:i]...), api.OK, l[:i]...)
		checkGives(t, lineOf(x), x)
	}
	checkGives(t, linesOf(l...), l...)
	many := slices.Repeat(l, 100)
	checkPut(t, linesOf(many...), api.OK, many...)
	checkGives(t, linesOf(many...), many...)
}

// 41.1: one operation that is not right, alone and at each place among others.
func TestPutWrong(t *testing.T) {
	right := some()[:12]
	for _, x := range wrong() {
		checkPut(t, "", api.ErrArg, x)
		checkPut(t, "", api.ErrArg, x, x)
		for i := range len(right) + 1 {
			checkPut(t, "", api.ErrArg, slices.Insert(slices.Clone(right), i, x)...)
		}
	}
	many := slices.Repeat([]api.Op{dequeue}, 5000)
	for _, i := range []int{0, 1, 2500, 4998, 4999} {
		many[i].Ticks = 1
		checkPut(t, "", api.ErrArg, many...)
		many[i].Ticks = 0
	}
	checkPut(t, linesOf(many...), api.OK, many...)
}

// 41.2: lines that are ignored.
func TestIgnored(t *testing.T) {
	ignored := []string{"", " ", "\t", " \t \t ", "#", "##", "# ", " #", "\t # x", "#in 1 2", "# in 1 2 3", "#\r", "#\x00", "# junk 4", "#none", "#" + strings.Repeat(" x", 100)}
	for _, a := range ignored {
		checkGives(t, a)
		checkGives(t, a+"\n")
		checkGives(t, "out\n"+a, dequeue)
		checkGives(t, a+"\nout", dequeue)
		checkRefuses(t, a+"\nnone", 2, api.ErrLine)
		for _, b := range ignored {
			checkGives(t, a+"\n"+b)
			checkGives(t, a+"\ntick 1\n"+b+"\nout\n"+a, ticks(1), dequeue)
			checkRefuses(t, a+"\n"+b+"\nout\nout 1", 4, api.ErrLine)
		}
	}
	for n := range 20 {
		checkGives(t, strings.Repeat("\n", n))
		checkGives(t, strings.Repeat("\n", n)+"out", dequeue)
		checkGives(t, "out"+strings.Repeat("\n", n), dequeue)
		checkRefuses(t, strings.Repeat("\n", n)+"none", n+1, api.ErrLine)
		checkRefuses(t, strings.Repeat("out\n", n)+"none"+strings.Repeat("\n", n), n+1, api.ErrLine)
	}
}

// 41.2: a # is only special where the first word begins.
func TestNumberSign(t *testing.T) {
	for s, err := range map[string]api.Errno{
		"out #":         api.ErrLine,
		"out#":          api.ErrLine,
		"out # x":       api.ErrLine,
		"in 1 2 3 #":    api.ErrLine,
		"in 1 2 3 #4":   api.ErrLine,
		"in 1 2 #":      api.ErrForm,
		"in # 2 3":      api.ErrForm,
		"in 1 #2 3":     api.ErrForm,
		"in 1 2 3#":     api.ErrForm,
		"tick #":        api.ErrForm,
		"tick 1#":       api.ErrForm,
		"junk #":        api.ErrForm,
		"stats #":       api.ErrLine,
		"tick #\nout":   api.ErrForm,
		"x #":           api.ErrLine,
		"in#":           api.ErrLine,
		"tick 1 # once": api.ErrLine,
	} {
		checkRefuses(t, s, 1, err)
		checkRefuses(t, "#\n"+s, 2, err)
		checkGives(t, "#"+s[:strings.IndexAny(s+"\n", "\n")])
	}
}

// 41.2: blanks in front of words, behind them, and several between them.
func TestBlanks(t *testing.T) {
	x := enqueue(1, 20, 300)
	blanks := []string{" ", "\t", "  ", "\t\t", " \t", "\t ", strings.Repeat(" ", 50)}
	for _, a := range blanks {
		for _, b := range blanks {
			checkGives(t, "in"+a+"1"+b+"20"+a+"300", x)
			checkGives(t, a+"in"+a+"1"+b+"20"+a+"300"+b, x)
			checkGives(t, a+"in 1 20 300\n"+b+"out"+a+"\n"+a, x, dequeue)
			checkGives(t, "tick"+a+"5"+b+"\n"+a+"junk"+b+"5\n"+b+"stats"+a, ticks(5), junkOf(5), tell)
		}
	}
	// No other byte is a blank.
	for b := range 256 {
		c := string([]byte{byte(b)})
		if b == ' ' || b == '\t' || b == '\n' {
			continue
		}
		if b != '#' {
			checkRefuses(t, c+"out", 1, api.ErrLine)
		}
		checkRefuses(t, "out"+c, 1, api.ErrLine)
		checkRefuses(t, "tick"+c+"1", 1, api.ErrLine)
		checkRefuses(t, "out "+c, 1, api.ErrLine)
		checkModel(t, "tick 1"+c)
		checkModel(t, "tick "+c)
		checkModel(t, "tick "+c+"1")
		checkModel(t, "in 1 2"+c+" 3")
	}
	checkRefuses(t, "out\r\n", 1, api.ErrLine)
	checkRefuses(t, "tick 5\r\n", 1, api.ErrForm)
	checkRefuses(t, "\r\nout", 1, api.ErrLine)
	checkRefuses(t, "\u00a0out", 1, api.ErrLine)
}

// 41.2: the number of words that each first word asks for.
func TestWords(t *testing.T) {
	for word, want := range map[string]int{"in": 3, "out": 0, "tick": 1, "stats": 0, "junk": 1} {
		for n := range 8 {
			s := word + strings.Repeat(" 7", n)
			if n != want {
				checkRefuses(t, s, 1, api.ErrLine)
				// Wrong numbers come behind that.
				checkRefuses(t, word+strings.Repeat(" x", n), 1, api.ErrLine)
				checkRefuses(t, word+strings.Repeat(" 99999999999999999999", n), 1, api.ErrLine)
			} else if l, _, err := Read(s); len(l) != 1 || err != api.OK {
				t.Error(s, l, err)
			}
		}
	}
	checkRefuses(t, "out"+strings.Repeat(" out", 100000), 1, api.ErrLine)
}

// 41.2: first words that there are not.
func TestNoWord(t *testing.T) {
	for _, word := range []string{
		"x", "i", "inn", "In", "IN", "ou", "outs", "Out", "tic", "ticks", "Tick", "stat", "Stats", "statss", "jun", "junks", "JUNK",
		"torn", "enqueue", "dequeue", "no", "at", "flow", "half", "rank", "0", "1", "2", "-", ".", "\x00", "\xff", "in,", "\"in\"", "ｉｎ", "in\x00",
	} {
		for n := range 5 {
			checkRefuses(t, word+strings.Repeat(" 7", n), 1, api.ErrLine)
			checkRefuses(t, "in 1 2 3\n\n"+word+strings.Repeat(" x", n)+"\nnone", 3, api.ErrLine)
		}
	}
}

// words are those of numbers, with what they mean where up to 64 bits may be.
func words() map[string]struct {
	n   uint64
	err api.Errno
} {
	type result = struct {
		n   uint64
		err api.Errno
	}
	m := map[string]result{
		"0": {}, "1": {n: 1}, "9": {n: 9}, "10": {n: 10}, "1000": {n: 1000}, "0K": {}, "0M": {}, "0G": {},
		"1K": {n: 1000}, "2K": {n: 2000}, "2M": {n: 2000000}, "2G": {n: 2000000000}, "1500K": {n: 1500000}, "1000K": {n: 1000000},
		"4294967295": {n: last}, "4294967296": {n: 1 << 32}, "4294967K": {n: 4294967000}, "4294968K": {n: 4294968000},
		"4294M": {n: 4294000000}, "4295M": {n: 4295000000}, "4G": {n: 4000000000}, "5G": {n: 5000000000},
		"18446744073709551615": {n: most}, "18446744073709551616": {err: api.ErrOver}, "99999999999999999999": {err: api.ErrOver},
		"18446744073709551K": {n: 18446744073709551000}, "18446744073709552K": {err: api.ErrOver},
		"18446744073709M": {n: 18446744073709000000}, "18446744073710M": {err: api.ErrOver},
		"18446744073G": {n: 18446744073000000000}, "18446744074G": {err: api.ErrOver},
		"18446744073709551615K": {err: api.ErrOver}, "18446744073709551616K": {err: api.ErrOver},
		strings.Repeat("9", 1000): {err: api.ErrOver}, "1" + strings.Repeat("0", 100000): {err: api.ErrOver},
	}
	for _, s := range []string{
		"00", "01", "007", "00K", "01K", "K", "M", "G", "KK", "1KK", "1KM", "1k", "1m", "1g", "1T", "1B", "K1", "-", "+", "-1", "+1", "-0", "1.0", "1e3",
		"0x1", "1_000", "1,000", "x", "x1", "1x", "#", "0" + strings.Repeat("9", 1000), "\x00", "1\x00", "１", "\xff", "in", "out", "4294967296x", "-18446744073709551616",
	} {
		m[s] = result{err: api.ErrForm}
	}
	return m
}

// 41.2: each number of each line, with units, with each error, at its ends.
func TestNumbers(t *testing.T) {
	for word, want := range words() {
		if want.err != api.OK {
			checkRefuses(t, "in "+word+" 2 3", 1, want.err)
			checkRefuses(t, "in 1 "+word+" 3", 1, want.err)
			checkRefuses(t, "in 1 2 "+word, 1, want.err)
			checkRefuses(t, "tick "+word, 1, want.err)
			checkRefuses(t, "junk "+word, 1, want.err)
			continue
		}
		n := want.n
		checkGives(t, "in 1 2 "+word, enqueue(1, 2, n))
		checkGives(t, "tick "+word, ticks(n))
		if n <= last {
			checkGives(t, "in "+word+" 2 3", enqueue(uint32(n), 2, 3))
			checkGives(t, "in 1 "+word+" 3", enqueue(1, uint32(n), 3))
		} else {
			checkRefuses(t, "in "+word+" 2 3", 1, api.ErrOver)
			checkRefuses(t, "in 1 "+word+" 3", 1, api.ErrOver)
		}
		if n == 0 || n > 4 && n < 256 {
			checkGives(t, "junk "+word, junkOf(n))
		} else {
			checkRefuses(t, "junk "+word, 1, api.ErrArg)
		}
	}
}

// 41.2: each Len of "junk" from 0 on.
func TestJunk(t *testing.T) {
	for n := range uint64(600) {
		s := lineOf(junkOf(n))
		if n == 0 || n > 4 && n < 256 {
			checkGives(t, s, junkOf(n))
		} else {
			checkRefuses(t, s, 1, api.ErrArg)
			checkRefuses(t, "\n"+s+"\nnone", 2, api.ErrArg)
		}
	}
}

// 41.2: several errors in one line: that of the first number that has one.
func TestSeveralErrors(t *testing.T) {
	l := []string{"1", "2K", "x", "01", "4294967295", "4294967296", "18446744073709551615", "18446744073709551616", "K", "5G"}
	seen := map[api.Errno]int{}
	for _, a := range l {
		for _, b := range l {
			for _, c := range l {
				seen[checkModel(t, "in "+a+" "+b+" "+c)]++
				checkModel(t, "tick "+a+"\njunk "+b+"\nin "+c+" "+a+" "+b)
			}
		}
	}
	if len(seen) != 3 {
		t.Error(seen)
	}
	checkRefuses(t, "in 4294967296 x x", 1, api.ErrOver)
	checkRefuses(t, "in x 4294967296 4294967296", 1, api.ErrForm)
	checkRefuses(t, "in 1 4294967296 x", 1, api.ErrOver)
	checkRefuses(t, "in 1 x 18446744073709551616", 1, api.ErrForm)
	checkRefuses(t, "in x x x x", 1, api.ErrLine)
	checkRefuses(t, "none x", 1, api.ErrLine)
}

// 41.2: several wrong lines: the first of them.
func TestSeveralLines(t *testing.T) {
	l := []struct {
		s   string
		err api.Errno
	}{{"none", api.ErrLine}, {"tick x", api.ErrForm}, {"tick 18446744073709551616", api.ErrOver}, {"junk 1", api.ErrArg}, {"in 1 2", api.ErrLine}, {"in 4294967296 1 1", api.ErrOver}}
	for _, a := range l {
		checkRefuses(t, a.s, 1, a.err)
		checkRefuses(t, a.s+"\n", 1, a.err)
		for _, b := range l {
			checkRefuses(t, a.s+"\n"+b.s, 1, a.err)
			checkRefuses(t, "out\n"+a.s+"\n"+b.s, 2, a.err)
			checkRefuses(t, "#\n\nout\nin 1 2 3\n"+a.s+"\nout\n"+b.s+"\n", 5, a.err)
		}
	}
	for n := range 300 {
		checkRefuses(t, strings.Repeat("out\n", n)+"junk 4\n"+strings.Repeat("none\n", n), n+1, api.ErrArg)
	}
}

// 41.2: a last line with a line feed, and without one.
func TestLastLine(t *testing.T) {
	for _, x := range some() {
		checkGives(t, lineOf(x), x)
		checkGives(t, lineOf(x)+"\n", x)
		checkGives(t, "out\n"+lineOf(x), dequeue, x)
		checkGives(t, "out\n"+lineOf(x)+"\n", dequeue, x)
	}
}

// 41.2: all short rows of some parts of lines, against the definition.
func TestShortTexts(t *testing.T) {
	parts := []string{"in", "out", "tick", "stats", "junk", "1", "9K", "200", "x", " ", "\n", "#"}
	var add func(s string, n int)
	seen := map[api.Errno]int{}
	add = func(s string, n int) {
		seen[checkModel(t, s)]++
		if n == 0 {
			return
		}
		for _, p := range parts {
			add(s+p, n-1)
			if n > 1 {
				add(s+p+" ", n-1)
			}
		}
	}
	add("", 4)
	if len(seen) != 4 {
		t.Error(seen)
	}
}

// 41.2: long rows of parts of lines, against the definition.
func TestLongTexts(t *testing.T) {
	parts := []string{
		"in 1 2 3\n", "in 1 2 3K", "out\n", "out", "tick 5\n", "tick ", "junk 5\n", "junk 4\n", "stats\n", " ", "\n", "#", "#\n", "in ", "7 ", "7G\n", "x\n",
		"4294967296 ", "99999999999999999999 ",
	}
	next := random(412)
	for range 20000 {
		var b strings.Builder
		for range next(12) {
			b.WriteString(one(next, parts...))
		}
		checkModel(t, b.String())
	}
}

// 41.2: any bytes.
func TestAnyBytes(t *testing.T) {
	next := random(41)
	for range 20000 {
		b := make([]byte, next(20))
		for i := range b {
			b[i] = one(next, byte(next(256)), "inoutck 0159\t\n#K"[next(16)])
		}
		checkModel(t, string(b))
		checkModel(t, "out\n"+string(b)+"\nout")
		checkModel(t, "tick "+string(b))
	}
}

// 41.2: each byte of lines replaced by some other ones.
func TestOtherBytes(t *testing.T) {
	b := []byte(linesOf(some()[:9]...))
	for i, was := range b {
		for is := range 256 {
			b[i] = byte(is)
			checkModel(t, string(b))
		}
		b[i] = was
	}
}

// 41.3
func TestInverse(t *testing.T) {
	for seed := range uint64(300) {
		l := anyOps(seed, int(seed)*3)
		s, err := Put(l...)
		if err != api.OK {
			t.Fatal(l, err)
		}
		checkGives(t, s, l...)
		checkGives(t, s+"# end", l...)
		if len(s) > 0 {
			checkGives(t, s[:len(s)-1], l...)
		}
	}
}

// What is not changed: the operations that are given; what Read returned once.
func TestMemory(t *testing.T) {
	l := some()
	want := slices.Clone(l)
	s, _ := Put(l...)
	if !slices.Equal(l, want) {
		t.Error(l)
	}
	got, _, _ := Read(s)
	clear(got)
	checkGives(t, s, want...)
	if again, _ := Put(want...); again != s {
		t.Error(again)
	}
}
