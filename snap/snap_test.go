package snap

import (
	"math"
	"slices"
	"strings"
	"testing"

	"pacemaker/api"
	"pacemaker/shaper"
)

// 40.1: the chapter's example.
func TestExample(t *testing.T) {
	checkRefuses(t, "", api.ErrSum)
}

const smallText = "rank stfq\nback heap\nlevels 1\nqueues 1\npackets 4K\nbytes 100\nshare 0\nmtu 10\nrate 1\nburst 300\nflow 258 1 0 0 50\n"

// small is the configuration of smallText.
func small() api.Config {
	return api.Config{
		Rank: api.RankSTFQ, Back: api.BackHeap, Levels: 1, Queues: 1, Packets: 4000, Bytes: 100, MTU: 10, Rate: 1, Burst: 300,
		Flows: []api.Flow{{ID: 258, Cost: 1, Cap: 50}},
	}
}

// 40.1: the bytes of snapshots, worked out by hand.
func TestPutBytes(t *testing.T) {
	c := small()
	st := api.State{
		Now: 300, Tokens: 128, Virtual: most, Tags: []uint64{1 << 14},
		Queues: [][]api.Ranked{{at(127, 258, 0x01020304, 9), at(1<<63, 258, last, 10)}},
	}
	st.Refused[1], st.Refused[31] = 5, 129
	body := string([]byte{byte(len(smallText))}) + smallText + // as it has less than 128 bytes
		"\xac\x02" + "\x80\x01" + strings.Repeat("\xff", 9) + "\x01" +
		"\x20" + "\x00\x05" + strings.Repeat("\x00", 29) + "\x81\x01" +
		"\x01" + "\x80\x80\x01" +
		"\x00" +
		"\x01" + "\x02" +
		"\x7f" + "\x00\x00\x01\x02" + "\x01\x02\x03\x04" + "\x09" +
		strings.Repeat("\x80", 9) + "\x01" + "\x00\x00\x01\x02" + "\xff\xff\xff\xff" + "\x0a"
	if len(smallText) >= 128 || textOf(c) != smallText {
		t.Fatal(len(smallText), textOf(c))
	}
	checkPut(t, c, st, sealed(body), api.OK)
	checkTake(t, sealed(body), c, st, api.OK)

	c.Back, c.Queues = api.BackQueues, 3 // and a text of 128 bytes
	c.Flows = append(c.Flows, api.Flow{ID: 1000000, Budget: 10})
	text := "rank stfq\nback queues\nlevels 1\nqueues 3\npackets 4K\nbytes 100\nshare 0\nmtu 10\nrate 1\nburst 300\nflow 258 1 0 0 50\nflow 1M 0 10 0 0\n"
	st = api.State{
		Tags: []uint64{2, 3}, Bounds: []uint64{4, 4, 500},
		Queues: [][]api.Ranked{nil, {at(6, 258, 7, 8)}, {}},
	}
	body = "\x80\x01" + text +
		"\x00\x00\x00" + "\x20" + strings.Repeat("\x00", 32) +
		"\x02\x02\x03" + "\x03\x04\x04\xf4\x03" +
		"\x03" + "\x00" + "\x01" + "\x06\x00\x00\x01\x02\x00\x00\x00\x07\x08" + "\x00"
	checkPut(t, c, st, sealed(body), api.OK)
	checkTake(t, sealed(body), c, st, api.OK)
}

// 40.1 and 40.3: each kind of ranks and of backend, with all configurations,
// from a new shaper on and after long rows of operations.
func TestKinds(t *testing.T) {
	for _, c := range []api.Config{config(), wide(), least(), greatest()} {
		for i, c := range kinds(c) {
			s := made(t, c)
			checkSave(t, c, s, both(t, c, s.State()), api.OK)
			for round := range 6 {
				s.Run(anyOps(c, uint64(i*10+round), []int{1, 2, 5, 30, 200, 1000}[round]))
				checkSave(t, c, s, both(t, c, s.State()), api.OK)
			}
			// Nothing waits again.
			for range 20000 {
				if r := s.Run([]api.Op{tick(1 << 20), out}); r[1].Code == api.ErrEmpty {
					break
				}
			}
			st := s.State()
			if packets(st) > 0 {
				t.Fatal(st)
			}
			checkSave(t, c, s, both(t, c, st), api.OK)
		}
	}
}

// packets returns how many packets wait.
func packets(st api.State) int {
	n := 0
	for _, q := range st.Queues {
		n += len(q)
	}
	return n
}

// 40.1 and 40.3: states that no operations lead to.
func TestAnyStates(t *testing.T) {
	for _, c := range []api.Config{config(), wide(), greatest()} {
		c.Packets, c.Bytes, c.Share = 4096, most>>16, 16
		for i := range c.Flows {
			c.Flows[i].Cap = most
		}
		for i, c := range kinds(c) {
			next := random(uint64(i))
			for range 20 {
				both(t, c, anyState(c, next))
			}
		}
	}
}

// 40.1: with tags, bounds, packets and counts, and without.
func TestParts(t *testing.T) {
	for _, c := range kinds(config()) {
		st := after(t, c)
		both(t, c, st)
		st.Tags = []uint64{1, 1 << 20, most}
		both(t, c, st)
		for i := range st.Bounds {
			st.Bounds[i] = uint64(i) << 30
		}
		both(t, c, st)
		for i := range st.Refused {
			st.Refused[i] = uint64(1) << i
		}
		both(t, c, st)
		i := len(st.Queues) - 1
		st.Queues[i] = []api.Ranked{at(5, 1, 2, 3)}
		both(t, c, st)
		st.Queues[0] = []api.Ranked{at(5, 2, 2, 3), at(5, 1, 2, 4), at(most, 7, last, 10)}
		both(t, c, st)
		st.Now, st.Tokens, st.Virtual = most, 12, most
		both(t, c, st)
	}
}

// 40.1: as many packets as may wait.
func TestFull(t *testing.T) {
	for _, c := range kinds(wide()) {
		st := after(t, c)
		for i := range uint64(4096) {
			q := 0
			if c.Back == api.BackQueues {
				q = int(i) % c.Queues
			}
			st.Queues[q] = append(st.Queues[q], at(i<<50, c.Flows[i%3].ID, uint32(i), 1+i))
		}
		both(t, c, st)
		st.Queues[0] = append(st.Queues[0], at(most, c.Flows[0].ID, 0, 1))
		checkPut(t, c, st, "", api.ErrArg)
		checkRefuses(t, encoded(textOf(c), st), api.ErrArg)
	}
}

// 40.1: states of which the parts belong to any configurations.
func TestAnyParts(t *testing.T) {
	l := append(kinds(config()), least())
	next := random(40)
	seen := map[api.Errno]int{}
	for range 3000 {
		c := l[next(uint64(len(l)))]
		of := func() api.State { return anyState(l[next(uint64(len(l)))], next) }
		st := of()
		if next(2) == 0 {
			st.Tags = of().Tags
		}
		if next(2) == 0 {
			st.Bounds = of().Bounds
		}
		if next(2) == 0 {
			st.Queues = of().Queues
		}
		_, err := shaper.Load(c, st)
		if seen[err]++; err == api.OK {
			both(t, c, st)
			continue
		}
		checkPut(t, c, st, "", err)
		checkRefuses(t, encoded(textOf(c), st), err)
	}
	if seen[api.OK] < 100 || seen[api.ErrArg] < 1000 {
		t.Error(seen)
	}
}

// 40.1: nil and empty lists are the same.
func TestEmptyLists(t *testing.T) {
	for _, c := range kinds(config()) {
		st := after(t, c)
		want := encoded(textOf(c), st)
		for i := range st.Queues {
			st.Queues[i] = []api.Ranked{}
		}
		if len(st.Bounds) == 0 {
			st.Bounds = []uint64{}
		}
		checkPut(t, c, st, want, api.OK)
		st = copied(st)
		for i := range st.Queues {
			st.Queues[i] = nil
		}
		checkPut(t, c, st, want, api.OK)
	}
}

// 40.1: the errors of conf.Check come ahead of those of the state.
func TestPutConfig(t *testing.T) {
	for i, test := range []struct {
		edit func(c *api.Config)
		err  api.Errno
	}{
		{func(c *api.Config) { *c = api.Config{} }, api.ErrKind},
		{func(c *api.Config) { c.Rank = 4 }, api.ErrKind},
		{func(c *api.Config) { c.Back, c.Levels = 0, 0 }, api.ErrKind},
		{func(c *api.Config) { c.Levels, c.Queues = 4, 0 }, api.ErrLevels},
		{func(c *api.Config) { c.Queues, c.Packets = 33, 0 }, api.ErrQueues},
		{func(c *api.Config) { c.Packets, c.MTU = 4097, 0 }, api.ErrCaps},
		{func(c *api.Config) { c.Bytes = 0 }, api.ErrCaps},
		{func(c *api.Config) { c.Share = 17 }, api.ErrCaps},
		{func(c *api.Config) { c.Share = -1 }, api.ErrCaps},
		{func(c *api.Config) { c.MTU, c.Flows = 65536, nil }, api.ErrMTU},
		{func(c *api.Config) { c.Flows, c.Rate = nil, 0 }, api.ErrFlows},
		{func(c *api.Config) { c.Flows[2].ID, c.Rate = 1, 0 }, api.ErrTwice},
		{func(c *api.Config) { c.Rate, c.Burst = 0, 9 }, api.ErrRate},
		{func(c *api.Config) { c.Burst = 9 }, api.ErrBurst},
	} {
		for _, c := range kinds(config()) {
			st := after(t, c, in(1, 2, 3))
			s := made(t, c)
			c.Flows = slices.Clone(c.Flows)
			test.edit(&c)
			checkPut(t, c, st, "", test.err)
			checkPut(t, c, api.State{}, "", test.err)
			checkSave(t, c, s, "", test.err)
			if _, err := shaper.Load(c, st); err != test.err {
				t.Fatal(i, err)
			}
		}
	}
}

// wrongState makes a state one that Load refuses for config.
type wrongState struct {
	name string
	make func(st *api.State)
}

// wrongStates are for all backends, those of the second list for a heap and a
// calendar, and those of the third one for two queues.
func wrongStates() ([]wrongState, []wrongState, []wrongState) {
	put := func(l ...api.Ranked) func(st *api.State) {
		return func(st *api.State) { st.Queues[0] = l }
	}
	one := at(1, 1, 2, 3)
	return []wrongState{
		{"nothing", func(st *api.State) { *st = api.State{} }},
		{"tokens", func(st *api.State) { st.Tokens = 13 }},
		{"all tokens", func(st *api.State) { st.Tokens = most }},
		{"no tags", func(st *api.State) { st.Tags = nil }},
		{"few tags", func(st *api.State) { st.Tags = st.Tags[:2] }},
		{"many tags", func(st *api.State) { st.Tags = append(st.Tags, 0) }},
		{"no list", func(st *api.State) { st.Queues = nil }},
		{"a list more", func(st *api.State) { st.Queues = append(st.Queues, nil) }},
		{"length 0", put(at(1, 1, 2, 0))},
		{"length 11", put(one, at(1, 1, 2, 11))},
		{"a great length", put(at(1, 1, 2, most))},
		{"no flow", put(at(1, 3, 2, 3))},
		{"many packets", put(slices.Repeat([]api.Ranked{one}, 9)...)},
		{"many bytes", put(append(slices.Repeat([]api.Ranked{at(1, 7, 2, 10)}, 6), at(1, 2, 2, 1))...)},
		{"many bytes of a flow", put(at(1, 1, 2, 10), at(1, 1, 2, 10), at(1, 1, 2, 10), at(1, 1, 2, 1))},
	}, []wrongState{
		{"a bound", func(st *api.State) { st.Bounds = []uint64{0} }},
		{"ranks that decrease", put(at(2, 1, 2, 3), one)},
	}, []wrongState{
		{"no bounds", func(st *api.State) { st.Bounds = nil }},
		{"few bounds", func(st *api.State) { st.Bounds = st.Bounds[:1] }},
		{"many bounds", func(st *api.State) { st.Bounds = []uint64{0, 0, 0} }},
		{"bounds that decrease", func(st *api.State) { st.Bounds = []uint64{1, 0} }},
		{"few lists", func(st *api.State) { st.Queues = st.Queues[:1] }},
	}
}

// 40.1: states that Load refuses, by Put and by Take.
func TestWrongStates(t *testing.T) {
	always, ordered, queued := wrongStates()
	for _, c := range kinds(config()) {
		l := slices.Concat(always, ordered)
		if c.Back == api.BackQueues {
			if c.Queues != 2 {
				continue
			}
			l = slices.Concat(always, queued)
		}
		for _, test := range l {
			st := after(t, c, in(2, 1, 4), in(7, 2, 5))
			test.make(&st)
			if _, err := shaper.Load(c, st); err != api.ErrArg {
				t.Fatal(test.name, err)
			}
			checkPut(t, c, st, "", api.ErrArg)
			checkRefuses(t, encoded(textOf(c), st), api.ErrArg)
		}
	}
	// The state of a shaper of another backend.
	for _, c := range kinds(config()) {
		for _, d := range kinds(config()) {
			st := after(t, c)
			if (c.Back == api.BackQueues) == (d.Back == api.BackQueues) && (c.Back != api.BackQueues || c.Queues == d.Queues) {
				both(t, d, st)
			} else {
				checkPut(t, d, st, "", api.ErrArg)
				checkRefuses(t, encoded(textOf(d), st), api.ErrArg)
			}
		}
	}
}

// 40.1: a text of MaxText bytes is not too long. No configuration that is
// allowed has so long a one.
func TestLongText(t *testing.T) {
	st := after(t, least())
	for _, size := range []int{0, 1, 127, 128, 65534, 65535} {
		text := strings.Repeat("x", size)
		s, err := encode(text, st)
		if s != encoded(text, st) || err != api.OK {
			t.Fatal(size, err)
		}
		got, u, err := decode(s[:len(s)-4])
		if got != text || !same(st, u) || err != api.OK {
			t.Fatal(size, err)
		}
		checkRefuses(t, s, api.ErrForm)
	}
	for _, size := range []int{65536, 65537, 1 << 17, 1 << 21} {
		text := strings.Repeat("x", size)
		if s, err := encode(text, st); s != "" || err != api.ErrLong {
			t.Fatal(size, err)
		}
		s := encoded(text, st)
		if got, u, err := decode(s[:len(s)-4]); got != "" || !same(u, api.State{}) || err != api.ErrForm {
			t.Fatal(size, err)
		}
		checkRefuses(t, s, api.ErrForm)
	}
	long := greatest()
	long.Bytes, long.Share = most, 0
	if n := len(textOf(long)); n < 6000 || n > 65535 {
		t.Fatal(n)
	}
	both(t, long, after(t, long))
}

// 40.1: texts that are not those of a configuration, though some mean the same.
func TestTexts(t *testing.T) {
	c := config()
	st := after(t, c, in(1, 2, 3))
	text := textOf(c)
	l := strings.SplitAfter(text, "\n")
	swapped := slices.Clone(l)
	swapped[0], swapped[1] = l[1], l[0]
	for _, s := range []string{
		// What conf.Read refuses.
		"", "\n", "#", " ", "x", text[1:], text + text, text + "x", text + "flow", text + "share 0\n",
		strings.Join(l[1:], ""), strings.Join(l[:10], ""), text + l[10],
		strings.Replace(text, "stfq", "fifo", 1), strings.Replace(text, "mtu 10", "mtu 13", 1), strings.Replace(text, "mtu 10", "mtu 010", 1),
		strings.ReplaceAll(text, "\n", "\r\n"), strings.Replace(text, "rate 2", "rate 0", 1), strings.ToUpper(text),
		// What conf.Put does not return.
		text[:len(text)-1], text + "\n", "\n" + text, text + "#", "# \n" + text, text + " ", " " + text,
		strings.Join(swapped, ""), strings.Replace(text, " ", "  ", 1), strings.Replace(text, " ", "\t", 1),
		strings.Replace(text, "stfq\n", "stfq \n", 1), text + strings.Repeat("\n", 65535-len(text)),
		text + "#" + strings.Repeat("x", 65534-len(text)),
	} {
		checkRefuses(t, encoded(s, st), api.ErrForm)
	}
	both(t, c, st)
	// Numbers that could be written with a unit.
	c = wide()
	c.Packets, c.Burst = 4000, 3000000
	st = after(t, c)
	text = textOf(c)
	for _, s := range [][2]string{{"4K", "4000"}, {"3M", "3000000"}, {"3M", "3000K"}} {
		if !strings.Contains(text, s[0]+"\n") {
			t.Fatal(text)
		}
		checkRefuses(t, encoded(strings.Replace(text, s[0]+"\n", s[1]+"\n", 1), st), api.ErrForm)
	}
	both(t, c, st)
	// A line that may be missing.
	c = small()
	st = after(t, c)
	checkRefuses(t, encoded(strings.Replace(smallText, "share 0\n", "", 1), st), api.ErrForm)
	both(t, c, st)
}

// samples are snapshots of shapers of several kinds, with packets that wait.
func samples(t *testing.T) []string {
	t.Helper()
	var l []string
	for i, c := range []api.Config{small(), kinds(config())[4], kinds(config())[16], kinds(wide())[15]} {
		s := made(t, c)
		s.Run(anyOps(c, uint64(i), 25))
		l = append(l, both(t, c, s.State()))
	}
	return l
}

// 40.1: bytes that are not sealed.
func TestNotSealed(t *testing.T) {
	for _, s := range []string{"\x00", "\x00\x00\x00", "\x00\x00\x00\x00", "\x00\x00\x00\x02", "rank edf\n", smallText, strings.Repeat("\x00", 100)} {
		checkRefuses(t, s, api.ErrSum)
	}
	checkRefuses(t, "\x00\x00\x00\x01", api.ErrForm) // no bytes, sealed
	for _, s := range samples(t) {
		for size := range len(s) {
			checkRefuses(t, s[:size], api.ErrSum)
		}
		checkRefuses(t, s[:len(s)-4], api.ErrSum)
		checkRefuses(t, s+"\x00", api.ErrSum)
		checkRefuses(t, s+s, api.ErrSum)
		checkRefuses(t, sealed(s), api.ErrForm)
	}
}

// 40.1: sealed bytes that end too early at each place, and that have some
// bytes too many.
func TestEnds(t *testing.T) {
	for _, s := range samples(t) {
		body := s[:len(s)-4]
		for size := range len(body) {
			checkRefuses(t, sealed(body[:size]), api.ErrForm)
		}
		for b := range 256 {
			checkRefuses(t, sealed(body+string([]byte{byte(b)})), api.ErrForm)
		}
		checkRefuses(t, sealed(body+body), api.ErrForm)
		checkRefuses(t, sealed(body+s), api.ErrForm)
		checkRefuses(t, sealed("\x00"+body), api.ErrForm)
		checkRefuses(t, sealed(body[1:]), api.ErrForm)
	}
}

// 40.1: another number of elements of Refused than api.Errnos, with as many
// elements or with as many as there should be.
func TestRefused(t *testing.T) {
	for _, c := range kinds(config()) {
		st := after(t, c, in(1, 2, 3), in(1, 2, 0), out)
		st.Refused[31] = 1 << 20
		l := pieces(textOf(c), st)
		i := slices.IndexFunc(l, func(p piece) bool { return p.what == "refused" })
		for _, n := range []uint64{0, 1, 31, 32, 33, 64, 255, 256 + 32, 1<<32 + 32, most} {
			m := slices.Clone(l)
			m[i].s = variable(n)
			want := api.ErrForm
			if n == 32 {
				want = api.OK
			}
			if err := checkModel(t, sealed(joined(m))); err != want {
				t.Fatal(n, err)
			}
			if n < 32 {
				m = slices.Delete(m, i+1+int(n), i+33)
			} else if n < 300 {
				m = slices.Insert(m, i+33, slices.Repeat([]piece{{"number", "\x00"}}, int(n-32))...)
			}
			if err := checkModel(t, sealed(joined(m))); err != want {
				t.Fatal(n, err)
			}
		}
	}
}

// 40.1: numbers of elements that are greater than the bytes that are left, or
// great in other ways.
func TestCounts(t *testing.T) {
	for _, c := range kinds(config()) {
		st := after(t, c, in(1, 2, 3), in(7, 2, 9), in(2, 2, 3))
		text := textOf(c)
		l := pieces(text, st)
		for i, p := range l {
			if p.what != "count" && p.what != "refused" {
				continue
			}
			left := uint64(len(joined(l[i+1:])))
			for _, n := range []uint64{left - 1, left, left + 1, left + 2, 2*left + 1, 255, 256, 1 << 16, 1<<31 - 1, 1 << 31, 1 << 32, 1<<32 + 1, 1<<63 - 1, 1 << 63, 1<<63 + 1, most - 1, most} {
				m := slices.Clone(l)
				m[i].s = variable(n)
				s := sealed(joined(m))
				if n > left {
					checkRefuses(t, s, api.ErrForm)
				} else {
					checkModel(t, s)
				}
				// The last number is followed by nothing.
				checkRefuses(t, sealed(joined(m[:i+1])), api.ErrForm)
			}
		}
	}
}

// 40.1: the number of bytes of the text, too.
func TestTextSize(t *testing.T) {
	c := small()
	st := after(t, c)
	l := pieces(smallText, st)
	for _, n := range []uint64{0, 1, uint64(len(smallText)) - 1, uint64(len(smallText)) + 1, 127, 128, 65535, 65536, 1 << 31, 1 << 32, 1 << 63, most} {
		checkRefuses(t, sealed(variable(n)+smallText+joined(l[1:])), api.ErrForm)
		checkRefuses(t, sealed(variable(n)), api.ErrForm)
	}
	both(t, c, st)
}

// 40.1: numbers that are not written in the shortest way, or are too great.
func TestShortest(t *testing.T) {
	for _, c := range []api.Config{small(), kinds(config())[1], kinds(config())[17]} {
		st := after(t, c, anyOps(c, 3, 20)...)
		l := pieces(textOf(c), st)
		for i, p := range l {
			if p.what == "word" {
				continue
			}
			for _, zeros := range []string{"\x00", "\x80\x00", strings.Repeat("\x80", 12) + "\x00"} {
				m := slices.Clone(l)
				number := p.s
				rest := ""
				if p.what == "text" {
					number, rest = p.s[:2], p.s[2:]
					if len(rest) < 128 {
						number, rest = p.s[:1], p.s[1:]
					}
				}
				end := len(number) - 1
				m[i].s = number[:end] + string([]byte{number[end] | 128}) + zeros + rest
				checkRefuses(t, sealed(joined(m)), api.ErrForm)
				m[i].s = strings.Repeat("\xff", 9) + "\x02" + rest
				checkRefuses(t, sealed(joined(m)), api.ErrForm)
				m[i].s = strings.Repeat("\xff", 10) + "\x01" + rest
				checkRefuses(t, sealed(joined(m)), api.ErrForm)
			}
		}
	}
}

// 40.1: each byte replaced by each other one, and sealed again.
func TestOtherBytes(t *testing.T) {
	seen := map[api.Errno]int{}
	l := samples(t)
	for _, s := range []string{l[0], l[2]} {
		body := []byte(s[:len(s)-4])
		for i, was := range body {
			for b := range 256 {
				body[i] = byte(b)
				seen[checkModel(t, sealed(string(body)))]++
			}
			body[i] = was
		}
	}
	if seen[api.OK] < 1000 || seen[api.ErrForm] < 1000 || seen[api.ErrArg] < 1000 || len(seen) != 3 {
		t.Error(seen)
	}
}

// 40.1: fields missing, twice, or in other places.
func TestOtherFields(t *testing.T) {
	for _, c := range []api.Config{small(), kinds(config())[2], kinds(config())[16]} {
		st := after(t, c, anyOps(c, 5, 20)...)
		l := pieces(textOf(c), st)
		for i := range l {
			checkModel(t, sealed(joined(slices.Delete(slices.Clone(l), i, i+1))))
			checkModel(t, sealed(joined(slices.Insert(slices.Clone(l), i, l[i]))))
			for j := range i {
				m := slices.Clone(l)
				m[i], m[j] = l[j], l[i]
				checkModel(t, sealed(joined(m)))
			}
		}
	}
}

// 40.1: bytes behind a text that is right.
func TestAnyBytes(t *testing.T) {
	next := random(401)
	head := string([]byte{byte(len(smallText))}) + smallText
	for range 20000 {
		b := make([]byte, next(60))
		for i := range b {
			b[i] = byte(next([]uint64{2, 256}[next(2)]))
		}
		checkModel(t, sealed(head+string(b)))
		checkModel(t, sealed(head+"\x00\x00\x00\x20"+strings.Repeat("\x00", 32)+string(b)))
		checkModel(t, sealed(string(b)))
		checkModel(t, string(b))
	}
}

// 40.2: shapers that New did not make.
func TestSaveNil(t *testing.T) {
	for _, c := range append(kinds(config()), least(), greatest(), api.Config{}, api.Config{Rank: math.MinInt}) {
		checkSave(t, c, nil, "", api.ErrNil)
		checkSave(t, c, new(shaper.Shaper), "", api.ErrNil)
		// Those that Load did not make are none.
		s, _ := shaper.Load(api.Config{}, api.State{})
		checkSave(t, c, s, "", api.ErrNil)
	}
}

// 40.2: Save is Put, changes nothing, and takes any configuration.
func TestSave(t *testing.T) {
	all := append(kinds(config()), wide(), small(), least(), greatest(), api.Config{})
	for _, c := range kinds(config()) {
		s := made(t, c)
		s.Run(anyOps(c, 7, 60))
		st := s.State()
		for _, d := range all {
			want, err := Put(d, st)
			checkSave(t, d, s, want, err)
			if !same(s.State(), st) {
				t.Fatal(s.State(), st)
			}
		}
	}
}

// 40.4: wherever a shaper was saved, it continues as it would have done, and
// has the same snapshot again.
func TestContinues(t *testing.T) {
	for i, c := range kinds(config()) {
		l := anyOps(c, uint64(i), 150)
		s := made(t, c)
		replies := made(t, c).Run(l)
		for j, x := range l {
			text, err := Save(c, s)
			if err != api.OK {
				t.Fatal(err)
			}
			d, r, err := Resume(text)
			if err != api.OK {
				t.Fatal(err)
			}
			checkSave(t, d, r, text, api.OK)
			if got := r.Run(l[j:]); !slices.Equal(got, replies[j:]) {
				t.Fatalf("%v: after %d: %v, not %v", c, j, got, replies[j:])
			}
			s.Do(x)
		}
	}
}

// 40.4: one that is saved and resumed between all operations, too.
func TestContinuesAlways(t *testing.T) {
	for _, c := range []api.Config{config(), wide(), least(), greatest()} {
		n := 100
		if c.Packets > 1000 {
			n = 12 // since much memory is taken for each shaper
		}
		for i, c := range kinds(c) {
			whole, parts := made(t, c), made(t, c)
			for _, x := range anyOps(c, uint64(i), n) {
				if r, want := parts.Do(x), whole.Do(x); r != want {
					t.Fatalf("%v is %v, not %v", x, r, want)
				}
				text, err := Save(c, whole)
				if err != api.OK {
					t.Fatal(err)
				}
				checkSave(t, c, parts, text, api.OK)
				if _, parts, err = Resume(text); err != api.OK {
					t.Fatal(err)
				}
			}
		}
	}
}

// 40.5: a byte changed at each place.
func TestChangedByte(t *testing.T) {
	for _, s := range samples(t) {
		b := []byte(s)
		for i, was := range b {
			for is := range 256 {
				if b[i] = byte(is); b[i] != was {
					checkRefuses(t, string(b), api.ErrSum)
				}
			}
			b[i] = was
		}
		checkModel(t, string(b))
	}
}

// Arguments are not changed, and what is returned shares no memory with other
// results or with a shaper.
func TestMemory(t *testing.T) {
	for _, c := range kinds(config()) {
		s := made(t, c)
		s.Run(anyOps(c, 9, 30))
		st := s.State()
		d, u := c, copied(st)
		d.Flows = slices.Clone(c.Flows)
		text := both(t, c, st)
		if !sameConfig(c, d) || !same(st, u) {
			t.Fatal(c, st)
		}
		e, v, _ := Take(text)
		f, r, _ := Resume(text)
		clear(e.Flows)
		clear(f.Flows)
		clear(v.Tags)
		clear(v.Bounds)
		for _, q := range v.Queues {
			clear(q)
		}
		clear(v.Queues)
		checkTake(t, text, c, st, api.OK)
		checkSave(t, c, r, text, api.OK)
		if r, want := r.Run(anyOps(c, 10, 50)), s.Run(anyOps(c, 10, 50)); !slices.Equal(r, want) {
			t.Fatal(r, want)
		}
		// What is appended to a list comes into no other one.
		_, v, _ = Take(text)
		for i := range v.Queues {
			_ = append(v.Queues[i], at(1, 2, 3, 4))
		}
		_, _ = append(v.Tags, 1), append(v.Bounds, 1)
		if !same(v, st) {
			t.Fatal(v, st)
		}
	}
}
