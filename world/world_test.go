package world

import (
	"math"
	"slices"
	"strconv"
	"strings"
	"testing"

	"pacemaker/api"
	"pacemaker/conf"
	"pacemaker/script"
	"pacemaker/shaper"
)

const text = `rank edf
back heap
levels 1
queues 2
packets 9
bytes 100
share 0
mtu 10
rate 1
burst 10
flow 5 1 10 0 50
flow 2 1 20 0 50
`

// 42.2: the chapter's example, and the document's ninth one.
func TestExamples(t *testing.T) {
	checkRun(t, "", "", "conf 0 22\n")
	one := strings.Replace(text, "flow 5", "flow 1", 1)
	checkRun(t, one, "in 1 7 5\nout\nout", "in 1 7 5 at 10\nout 1 7 5 at 10\nout no 18\nflow 1 1 1 5\nflow 2 0 0 0\nhalf 0 0\n")
}

// whole is a reply in which every field has a value.
func whole() api.Reply {
	r := api.Reply{
		Packet: api.Packet{Flow: 1, ID: 20, Len: 300}, Rank: 4000,
		Stats: api.Stats{Now: 5, Tokens: 60, Packets: 700, Bytes: 8000},
	}
	r.Stats.Refused[1], r.Stats.Refused[12], r.Stats.Refused[31] = 9, 1000, most
	return r
}

// 42.1: each kind, with what belongs to it and what does not.
func TestLineKinds(t *testing.T) {
	for kind, want := range map[int]string{
		api.OpEnqueue: "in 1 20 300 at 4000",
		api.OpDequeue: "out 1 20 300 at 4000",
		api.OpTick:    "tick",
		api.OpStats:   "stats 5 60 700 8000 1 9 12 1000 31 18446744073709551615",
		api.OpJunk:    "junk",
		api.OpTorn:    "torn",
	} {
		r := whole()
		r.Kind = kind
		checkLine(t, r, want)
	}
	for kind, want := range map[int]string{
		api.OpEnqueue: "in 0 0 0 at 0",
		api.OpDequeue: "out 0 0 0 at 0",
		api.OpTick:    "tick",
		api.OpStats:   "stats 0 0 0 0",
		api.OpJunk:    "junk",
		api.OpTorn:    "torn",
	} {
		checkLine(t, api.Reply{Kind: kind}, want)
	}
	great := api.Reply{Packet: api.Packet{Flow: last, ID: last, Len: most}, Rank: most, Stats: api.Stats{Now: most, Tokens: most, Packets: math.MaxInt, Bytes: most}}
	great.Kind = api.OpEnqueue
	checkLine(t, great, "in 4294967295 4294967295 18446744073709551615 at 18446744073709551615")
	great.Kind = api.OpDequeue
	checkLine(t, great, "out 4294967295 4294967295 18446744073709551615 at 18446744073709551615")
	great.Kind = api.OpStats
	checkLine(t, great, "stats 18446744073709551615 18446744073709551615 9223372036854775807 18446744073709551615")
}

// codes are those that there are, and others.
func codes() []api.Errno {
	l := []api.Errno{math.MinInt, math.MinInt + 1, -1 << 32, -256, -32, -2, -1, api.Errnos, 33, 255, 256, 1 << 32, math.MaxInt}
	for code := range api.Errnos {
		l = append(l, code)
	}
	return l
}

// 42.1: each kind with each code, also those that there are not.
func TestLineCodes(t *testing.T) {
	for _, code := range codes() {
		for kind := -1; kind <= 6; kind++ {
			r := whole()
			r.Kind, r.Code = kind, code
			checkLine(t, r, lineOf(r))
			r = api.Reply{Kind: kind, Code: code}
			checkLine(t, r, lineOf(r))
		}
	}
	for code := api.Errno(1); code < 100; code++ {
		n := strconv.Itoa(int(code))
		for kind, want := range map[int]string{
			api.OpEnqueue: "in 1 20 300 no ",
			api.OpDequeue: "out no ",
			api.OpTick:    "tick no ",
			api.OpStats:   "stats no ",
			api.OpJunk:    "junk no ",
			api.OpTorn:    "torn no ",
		} {
			r := whole()
			r.Kind, r.Code = kind, code
			checkLine(t, r, want+n)
		}
	}
	for code, n := range map[api.Errno]string{
		-1:              "18446744073709551615",
		-2:              "18446744073709551614",
		-1 << 32:        "18446744069414584320",
		math.MinInt:     "9223372036854775808",
		math.MinInt + 1: "9223372036854775809",
		math.MaxInt:     "9223372036854775807",
	} {
		checkLine(t, api.Reply{Kind: api.OpTick, Code: code}, "tick no "+n)
		checkLine(t, api.Reply{Kind: api.OpEnqueue, Code: code, Packet: api.Packet{Flow: 3, ID: 4, Len: 5}, Rank: 6}, "in 3 4 5 no "+n)
		checkLine(t, api.Reply{Kind: api.OpDequeue, Code: code, Packet: api.Packet{Flow: 3, ID: 4, Len: 5}, Rank: 6}, "out no "+n)
	}
}

// 42.1: kinds that there are not.
func TestLineNoKind(t *testing.T) {
	for _, kind := range []int{math.MinInt, -1 << 32, -256, -2, -1, 6, 7, 31, 255, 256, 257, 1 << 32, 1<<32 + 1, math.MaxInt} {
		for _, code := range codes() {
			r := whole()
			r.Kind, r.Code = kind, code
			checkLine(t, r, "")
			checkLine(t, api.Reply{Kind: kind, Code: code}, "")
		}
	}
}

// 42.1: numbers of packets below 0, and others.
func TestLinePackets(t *testing.T) {
	for packets, want := range map[int]string{
		math.MinInt: "0", -1 << 32: "0", -2: "0", -1: "0", 0: "0", 1: "1", 4096: "4096", 1 << 32: "4294967296", math.MaxInt: "9223372036854775807",
	} {
		checkLine(t, api.Reply{Kind: api.OpStats, Stats: api.Stats{Now: 1, Tokens: 2, Packets: packets, Bytes: 3}}, "stats 1 2 "+want+" 3")
	}
}

// 42.1: with nothing refused, with one, several and all errors.
func TestLineRefused(t *testing.T) {
	r := api.Reply{Kind: api.OpStats}
	for i := range r.Stats.Refused {
		for _, n := range []uint64{1, 2, 1 << 32, most} {
			one := r
			one.Stats.Refused[i] = n
			checkLine(t, one, "stats 0 0 0 0 "+strconv.Itoa(i)+" "+strconv.FormatUint(n, 10))
		}
	}
	next := random(421)
	for range 2000 {
		of := 1 + next(20)
		for i := range r.Stats.Refused {
			r.Stats.Refused[i] = 0
			if next(of) == 0 {
				r.Stats.Refused[i] = anyNumber(next)
			}
		}
		checkLine(t, r, lineOf(r))
	}
	var want strings.Builder
	for i := range r.Stats.Refused {
		r.Stats.Refused[i] = 7
		want.WriteString(" " + strconv.Itoa(i) + " 7")
	}
	checkLine(t, r, "stats 0 0 0 0"+want.String())
}

// 42.1: any replies.
func TestLineAny(t *testing.T) {
	next := random(422)
	for range 20000 {
		r := api.Reply{
			Kind:   int(next(7)),
			Packet: api.Packet{Flow: uint32(anyNumber(next)), ID: uint32(anyNumber(next)), Len: anyNumber(next)},
			Rank:   anyNumber(next),
			Stats:  api.Stats{Now: anyNumber(next), Tokens: anyNumber(next), Packets: int(anyNumber(next)), Bytes: anyNumber(next)},
		}
		if next(2) == 0 {
			r.Code = api.Errno(anyNumber(next))
		}
		r.Stats.Refused[next(32)] = anyNumber(next)
		checkLine(t, r, lineOf(r))
	}
}

// 42.2: configurations in which something is wrong: nothing else is told.
func TestRunConf(t *testing.T) {
	for s, want := range map[string]string{
		"":                                   "conf 0 22\n",
		"\n\n# nothing":                      "conf 0 22\n",
		"x":                                  "conf 1 31\n",
		"rank x":                             "conf 1 22\n",
		"\n\nrank stfq 1":                    "conf 3 31\n",
		text + "rank edf":                    "conf 13 31\n",
		text + "flow 1 1 1 1":                "conf 13 31\n",
		text + "flow x 1 1 1 1":              "conf 13 3\n",
		text + "flow 4294967296 1 1 1 1":     "conf 13 5\n",
		text + "flow 5 1 1 1 1":              "conf 0 30\n",
		"\nrank edf\nlevels 01":              "conf 3 3\n",
		"packets 2147483648":                 "conf 1 5\n",
		strings.Replace(text, "heap", "", 1): "conf 2 31\n",
		strings.Replace(text, "levels 1", "levels 4", 1):    "conf 0 23\n",
		strings.Replace(text, "queues 2", "queues 0", 1):    "conf 0 24\n",
		strings.Replace(text, "packets 9", "packets 5K", 1): "conf 0 25\n",
		strings.Replace(text, "mtu 10", "mtu 0", 1):         "conf 0 26\n",
		strings.Replace(text, "rate 1", "rate 0", 1):        "conf 0 27\n",
		strings.Replace(text, "burst 10", "burst 9", 1):     "conf 0 28\n",
		text[:strings.Index(text, "flow")]:                  "conf 0 29\n",
	} {
		// Also with scripts that are wrong.
		for _, lines := range []string{"", "out", "in 5 7 5\nout", "none", "tick x", strings.Repeat("out\n", 1000)} {
			checkRun(t, s, lines, want)
		}
	}
}

// 42.2: scripts in which something is wrong: nothing else is told.
func TestRunScript(t *testing.T) {
	for s, want := range map[string]string{
		"none":                                "script 1 31\n",
		"out\nin":                             "script 2 31\n",
		"out\n\n# x\nstats 1\nnone":           "script 4 31\n",
		"tick x":                              "script 1 3\n",
		"in 5 7 5\ntick 18446744073709551616": "script 2 5\n",
		"in 4294967296 1 1":                   "script 1 5\n",
		"junk 4":                              "script 1 6\n",
		strings.Repeat("out\n", 999) + "junk 256": "script 1000 6\n",
		"torn": "script 1 31\n",
	} {
		for _, c := range kinds(config()) {
			text, _ := texts(t, c)
			checkRun(t, text, s, want)
			checkRun(t, "\n"+text+"# end", s, want)
			checkRun(t, text+"x", s, "conf 14 31\n")
		}
	}
}

// 42.2: texts need not be those of Put.
func TestRunTexts(t *testing.T) {
	want := "in 5 7 2000 no 12\nin 5 7 1 at 10\ntick\nout 5 7 1 at 10\nflow 5 1 1 1\nflow 2 0 0 0\nhalf 960 1023\n"
	checkRun(t, "# edf\n\n"+strings.ReplaceAll(text, " ", "\t "), " in 5 7 2K\n#\n\nin 5 7 1\n tick\t1K \nout \n# out", want)
}

// 42.2: no operation.
func TestRunNothing(t *testing.T) {
	for _, lines := range []string{"", "\n", "#", "# in 1 2 3\n\n"} {
		checkRun(t, text, lines, "flow 5 0 0 0\nflow 2 0 0 0\n")
	}
	for _, c := range append(kinds(config()), least(), greatest(), wide()) {
		s := checkReport(t, c)
		if strings.Count(s, "\n") != len(c.Flows) || strings.Contains(s, "half") {
			t.Fatal(s)
		}
	}
}

// 42.2: a reply of each kind, worked out by hand.
func TestRunReplies(t *testing.T) {
	checkRun(t, text, "stats\nin 5 1 10\nin 2 2 9\nin 5 3 0\nin 3 4 1\njunk 0\njunk 200\nstats\nout\nout\ntick 8\nout\nstats\ntick 1\nout\nout\ntick 18446744073709551615\nstats",
		"stats 0 10 0 0\n"+
			"in 5 1 10 at 10\n"+
			"in 2 2 9 at 20\n"+
			"in 5 3 0 no 12\n"+
			"in 3 4 1 no 13\n"+
			"junk no 1\n"+
			"junk no 1\n"+
			"stats 0 10 2 19 1 2 12 1 13 1\n"+
			"out 5 1 10 at 10\n"+
			"out no 19\n"+
			"tick\n"+
			"out no 19\n"+
			"stats 8 8 1 9 1 2 12 1 13 1\n"+
			"tick\n"+
			"out 2 2 9 at 20\n"+
			"out no 18\n"+
			"tick\n"+
			"stats 18446744073709551615 10 0 0 1 2 12 1 13 1\n"+
			"flow 5 1 1 10\n"+
			"flow 2 1 1 9\n"+
			"half 0 0\n")
}

// 42.2: flows that nothing left of, or nothing came of.
func TestRunFlows(t *testing.T) {
	checkRun(t, text, "in 5 1 10\nin 5 2 3", "in 5 1 10 at 10\nin 5 2 3 at 10\nflow 5 2 0 0\nflow 2 0 0 0\n")
	checkRun(t, text, "in 2 1 3\nout\nin 2 2 4\nin 2 2 4\nout\nin 5 1 1",
		"in 2 1 3 at 20\nout 2 1 3 at 20\nin 2 2 4 at 20\nin 2 2 4 at 20\nout 2 2 4 at 20\nin 5 1 1 at 10\nflow 5 1 0 0\nflow 2 3 2 7\nhalf 0 0\n")
	// What is refused counts for no flow.
	checkRun(t, text, "in 5 1 11\nin 2 2 0\nin 9 2 1\nout", "in 5 1 11 no 12\nin 2 2 0 no 12\nin 9 2 1 no 13\nout no 18\nflow 5 0 0 0\nflow 2 0 0 0\n")
}

// 42.2: the half of how long packets waited, if one left: the Low and High of
// its bucket.
func TestRunHalfOne(t *testing.T) {
	head := "in 5 1 1 at 10\n"
	for ticks, want := range map[uint64]string{
		0: "0 0", 1: "1 1", 7: "7 7", 8: "8 8", 15: "15 15", 16: "16 17", 17: "16 17", 18: "18 19", 31: "30 31", 32: "32 35", 35: "32 35", 100: "96 103",
		1000: "960 1023", 1 << 32: "4294967296 4831838207", most - 1: "17293822569102704640 18446744073709551615", most: "17293822569102704640 18446744073709551615",
	} {
		n := strconv.FormatUint(ticks, 10)
		tail := "out 5 1 1 at 10\nflow 5 1 1 1\nflow 2 0 0 0\nhalf " + want + "\n"
		checkRun(t, text, "in 5 1 1\ntick "+n+"\nout", head+"tick\n"+tail)
		// What comes behind that does not count.
		checkRun(t, text, "in 5 1 1\ntick "+n+"\nout\ntick 5\nout", head+"tick\n"+strings.Replace(tail, "flow", "tick\nout no 18\nflow", 1))
	}
	// Nothing left: no half.
	checkRun(t, text, "in 5 1 1\ntick 5", head+"tick\nflow 5 1 0 0\nflow 2 0 0 0\n")
}

// 42.2: the half if many packets left.
func TestRunHalf(t *testing.T) {
	c := config()
	c.Rank, c.Rate = api.RankEDF, 100
	for waits, want := range map[string]string{
		"0 100":         "0 0",
		"0 1 100":       "1 1",
		"3 3 3 100":     "3 3",
		"3 3 100 100":   "3 3",
		"3 100 100":     "96 103",
		"5 4 3 2 1":     "3 3",
		"16 17 17":      "16 17",
		"0 0 0 9 9 9 9": "9 9",
		"0 0 0 9 9 9":   "0 0",
	} {
		var l []api.Op
		for i, n := range strings.Fields(waits) {
			ticks, _ := strconv.ParseUint(n, 10, 64)
			l = append(l, in(1, uint32(i), 1), tick(ticks), out)
		}
		if s := checkReport(t, c, l...); !strings.HasSuffix(s, "\nhalf "+want+"\n") {
			t.Error(waits, s)
		}
	}
}

// 42.2: equal packets: the first of them leaves first.
func TestRunEqual(t *testing.T) {
	checkRun(t, text, "in 5 1 1\ntick 5\nin 5 1 1\ntick 2\nout\nin 5 1 1\ntick 1\nout\nout",
		"in 5 1 1 at 10\ntick\nin 5 1 1 at 15\ntick\nout 5 1 1 at 10\nin 5 1 1 at 17\ntick\nout 5 1 1 at 15\nout 5 1 1 at 17\nflow 5 3 3 3\nflow 2 0 0 0\nhalf 3 3\n")
}

// 42.2: each kind of ranks and of backend, with all configurations, against the
// definitions.
func TestRunModel(t *testing.T) {
	for _, c := range []api.Config{config(), wide(), least(), greatest()} {
		for i, c := range kinds(c) {
			left := 0
			for seed, n := range []int{1, 2, 3, 5, 10, 20, 50, 100, 300, 1000} {
				s := checkReport(t, c, anyOps(c, uint64(seed*100+i), n)...)
				left += strings.Count(s, "half")
			}
			if left == 0 {
				t.Error(c)
			}
		}
	}
}

// 42.2: all short scripts, against the definitions.
func TestRunShort(t *testing.T) {
	for _, back := range []int{api.BackHeap, api.BackQueues} {
		c := config()
		c.Back, c.Burst = back, 10
		each := []api.Op{in(1, 1, 10), in(2, 2, 4), in(1, 3, 11), out, tick(3), stats, {Kind: api.OpJunk, Len: 5}}
		l := make([]api.Op, 0, 4)
		var add func()
		add = func() {
			checkReport(t, c, l...)
			if len(l) == cap(l) {
				return
			}
			for _, x := range each {
				l = append(l, x)
				add()
				l = l[:len(l)-1]
			}
		}
		add()
	}
}

// 42.2: any texts.
func TestRunAny(t *testing.T) {
	parts := []string{"in 5 1 2", "in 2 1 1", "out", "tick 1", "tick 30", "stats", "junk 9", "\n", "\n", "\n", "\n", " ", "#", "x"}
	next := random(423)
	ok := 0
	for range 5000 {
		var b strings.Builder
		for range next(30) {
			b.WriteString(parts[next(uint64(len(parts)))])
			if next(20) > 0 {
				b.WriteString("\n")
			}
		}
		lines := b.String()
		l, n, err := script.Read(lines)
		if err != api.OK {
			checkRun(t, text, lines, "script "+strconv.Itoa(n)+" "+strconv.Itoa(int(err))+"\n")
			continue
		}
		ok++
		c, _, _ := conf.Read(text)
		checkRun(t, text, lines, reported(t, c, l))
	}
	if ok < 200 {
		t.Error(ok)
	}
	for range 2000 {
		b := []byte(text)
		b[next(uint64(len(b)))] = byte(next(256))
		c, n, err := conf.Read(string(b))
		if err != api.OK {
			checkRun(t, string(b), "out", "conf "+strconv.Itoa(n)+" "+strconv.Itoa(int(err))+"\n")
		} else {
			checkRun(t, string(b), "out", reported(t, c, []api.Op{out}))
		}
	}
}

// 42.3
func TestHeapAndCalendar(t *testing.T) {
	for _, c := range []api.Config{config(), wide(), least(), greatest()} {
		for rank := api.RankSTFQ; rank <= api.RankSRS; rank++ {
			c.Rank = rank
			for seed := range uint64(5) {
				l := anyOps(c, seed, 500)
				var want string
				for i, d := range backs(c)[:4] {
					text, lines := texts(t, d, l...)
					s := Run(text, lines)
					if i == 0 {
						want = s
					} else if s != want {
						t.Fatalf("%v: %q, not %q", d, s, want)
					}
				}
			}
		}
	}
}

// 42.4: the first lines are the same, whatever follows.
func TestFirstLines(t *testing.T) {
	for i, c := range kinds(config()) {
		l := anyOps(c, uint64(i), 120)
		text, lines := texts(t, c, l...)
		all := strings.SplitAfter(Run(text, lines), "\n")
		for n := range len(l) + 1 {
			other := anyOps(c, uint64(n), 3)
			for _, rest := range [][]api.Op{nil, other} {
				_, lines := texts(t, c, slices.Concat(l[:n], rest)...)
				s := strings.SplitAfter(Run(text, lines), "\n")
				if !slices.Equal(s[:n], all[:n]) {
					t.Fatal(n, s, all)
				}
			}
		}
	}
}

// 42.1 and 42.2: the lines of a run are those of the shaper's replies.
func TestRunLines(t *testing.T) {
	for i, c := range kinds(config()) {
		l := anyOps(c, uint64(i), 200)
		text, lines := texts(t, c, l...)
		s, _ := shaper.New(c)
		all := strings.Split(Run(text, lines), "\n")
		for j, r := range s.Run(l) {
			if all[j] != Line(r) {
				t.Fatal(j, all[j], Line(r))
			}
		}
	}
}

// Nothing is kept from one call to the next.
func TestAgain(t *testing.T) {
	for i, c := range kinds(config()) {
		l := anyOps(c, uint64(i), 100)
		want := checkReport(t, c, l...)
		text, lines := texts(t, c, l...)
		Run(text, "none")
		checkRun(t, text, lines, want)
	}
}
