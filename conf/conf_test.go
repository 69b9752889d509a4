package conf

import (
	"cmp"
	"math"
	"math/big"
	"reflect"
	"regexp"
	"slices"
	"strconv"
	"strings"
	"testing"

	"pacemaker/api"
)

const (
	most = api.MaxU64
	last = math.MaxUint32 // the greatest ID
	word = "18446744073709551615"
	over = "18446744073709551616"
)

// whole is the text of config.
const whole = `rank edf
back calendar
levels 2
queues 4
packets 4K
bytes 1M
share 3
mtu 1500
rate 10
burst 3K
flow 7 1 10 100 2K
flow 1K 0 0 0 0
flow 4294967295 18446744073709551615 3G 1001 5M
`

// config is a configuration with several flows.
func config() api.Config {
	return api.Config{
		Rank: api.RankEDF, Back: api.BackCalendar, Levels: 2, Queues: 4, Packets: 4000, Bytes: 1000000, Share: 3, MTU: 1500, Rate: 10, Burst: 3000,
		Flows: []api.Flow{
			{ID: 7, Cost: 1, Budget: 10, Size: 100, Cap: 2000},
			{ID: 1000},
			{ID: last, Cost: most, Budget: 3000000000, Size: 1001, Cap: 5000000},
		},
	}
}

// least has the least number of everything.
func least() api.Config {
	return api.Config{Rank: 1, Back: 1, Levels: 1, Queues: 1, Packets: 1, Bytes: 1, MTU: 1, Rate: 1, Burst: 1, Flows: []api.Flow{{}}}
}

// greatest has the greatest number of everything, and the most flows.
func greatest() api.Config {
	c := api.Config{Rank: 3, Back: 3, Levels: 3, Queues: 32, Packets: 4096, Bytes: most >> 16, Share: 16, MTU: 65535, Rate: most, Burst: most}
	for i := range uint32(64) {
		c.Flows = append(c.Flows, api.Flow{ID: last - i, Cost: most, Budget: most, Size: most, Cap: most})
	}
	return c
}

// flows returns n flows with different IDs.
func flows(n int) []api.Flow {
	var l []api.Flow
	for i := range n {
		l = append(l, api.Flow{ID: uint32(i) * 0x9E3779B1, Cap: uint64(i)})
	}
	return l
}

// random returns a function whose result is less than n.
func random(seed uint64) func(n uint64) uint64 {
	return func(n uint64) uint64 {
		seed = seed*6364136223846793005 + 1442695040888963407
		return seed >> 33 % n
	}
}

// same tells whether two configurations are the same; nil and empty lists are.
func same(a, b api.Config) bool {
	if !slices.Equal(a.Flows, b.Flows) {
		return false
	}
	a.Flows, b.Flows = nil, nil
	return reflect.DeepEqual(a, b)
}

// copied returns a configuration that shares no memory with c.
func copied(c api.Config) api.Config {
	c.Flows = slices.Clone(c.Flows)
	return c
}

// edit makes one thing of a configuration wrong.
type edit struct {
	err  api.Errno
	make func(c *api.Config)
}

// edits are in the order in which their errors are looked for.
func edits() []edit {
	return []edit{
		{api.ErrKind, func(c *api.Config) { c.Rank = 0 }},
		{api.ErrKind, func(c *api.Config) { c.Back = 4 }},
		{api.ErrLevels, func(c *api.Config) { c.Levels = 4 }},
		{api.ErrQueues, func(c *api.Config) { c.Queues = 33 }},
		{api.ErrCaps, func(c *api.Config) { c.Packets = 0 }},
		{api.ErrCaps, func(c *api.Config) { c.Share = 17 }},
		{api.ErrMTU, func(c *api.Config) { c.MTU = 65536 }},
		// Of these the IDs are the same too.
		{api.ErrFlows, func(c *api.Config) { c.Flows = slices.Repeat(c.Flows[:1], 65) }},
		{api.ErrTwice, func(c *api.Config) { c.Flows[2].ID = c.Flows[0].ID }},
		{api.ErrRate, func(c *api.Config) { c.Rate = 0 }},
		{api.ErrBurst, func(c *api.Config) { c.Burst = c.MTU - 1 }},
	}
}

// broken calls f with every choice of edits made, and the first error of them.
func broken(f func(c api.Config, err api.Errno)) {
	all := edits()
	for chosen := range 1 << len(all) {
		c, err := config(), api.OK
		for i, e := range all {
			if chosen>>i&1 == 1 {
				e.make(&c)
				err = cmp.Or(err, e.err)
			}
		}
		f(c, err)
	}
}

func checkCheck(t *testing.T, c api.Config, err api.Errno) {
	t.Helper()
	if e := Check(c); e != err {
		t.Errorf("Check(%.200v) is %d, not %d", c, e, err)
	}
}

// checkRead checks Read, which returns nothing else with an error.
func checkRead(t *testing.T, s string, line int, err api.Errno) {
	t.Helper()
	if c, n, e := Read(s); n != line || e != err || e != api.OK && !same(c, api.Config{}) {
		t.Errorf("Read(%.300q) is %.200v, %d, %d, not %d, %d", s, c, n, e, line, err)
	}
}

// checkGives checks what Read returns for a text in which nothing is wrong.
func checkGives(t *testing.T, s string, want api.Config) {
	t.Helper()
	if c, n, e := Read(s); !same(c, want) || n != 0 || e != api.OK {
		t.Errorf("Read(%.300q) is %.200v, %d, %d, not %.200v", s, c, n, e, want)
	}
}

// 24.1: each kind of ranks and of backends, and kinds that there are not.
func TestKinds(t *testing.T) {
	kinds := []int{math.MinInt, -1 << 32, -4, -3, -2, -1, 0, 1, 2, 3, 4, 5, 22, 256, 257, 1<<32 + 1, math.MaxInt}
	there := func(k int) bool { return k == 1 || k == 2 || k == 3 }
	for _, rank := range kinds {
		for _, back := range kinds {
			c := config()
			c.Rank, c.Back = rank, back
			err := api.ErrKind
			if there(rank) && there(back) {
				err = api.OK
			}
			checkCheck(t, c, err)
			if s, e := Put(c); e != err || (s == "") != (err != api.OK) {
				t.Errorf("Put of the kinds %d and %d is %q, %d", rank, back, s, e)
			}
		}
	}
}

// 24.1: Levels and Queues at their edges.
func TestLevelsAndQueues(t *testing.T) {
	counts := []int{math.MinInt, -1 << 32, -33, -3, -1, 0, 1, 2, 3, 4, 5, 16, 31, 32, 33, 34, 64, 1<<32 + 1, math.MaxInt}
	for _, levels := range counts {
		for _, queues := range counts {
			c := config()
			c.Levels, c.Queues = levels, queues
			switch {
			case levels < 1 || levels > 3:
				checkCheck(t, c, api.ErrLevels)
			case queues < 1 || queues > 32:
				checkCheck(t, c, api.ErrQueues)
			default:
				checkCheck(t, c, api.OK)
			}
		}
	}
}

// 24.1: each error of admit.Check at its edges.
func TestAdmit(t *testing.T) {
	for _, x := range []struct {
		err  api.Errno
		make func(c *api.Config)
	}{
		{api.ErrCaps, func(c *api.Config) { c.Packets = 0 }}, {api.ErrCaps, func(c *api.Config) { c.Packets = -1 }}, {api.ErrCaps, func(c *api.Config) { c.Packets = 4097 }},
		{api.OK, func(c *api.Config) { c.Packets = 1 }}, {api.OK, func(c *api.Config) { c.Packets = 4096 }},
		{api.ErrCaps, func(c *api.Config) { c.Bytes = 0 }}, {api.OK, func(c *api.Config) { c.Bytes = 1 }},
		{api.OK, func(c *api.Config) { c.Bytes = most >> 3 }}, {api.ErrCaps, func(c *api.Config) { c.Bytes = most>>3 + 1 }}, {api.ErrCaps, func(c *api.Config) { c.Bytes = most }},
		{api.OK, func(c *api.Config) { c.Bytes, c.Share = most, 0 }},
		{api.ErrCaps, func(c *api.Config) { c.Share = -1 }}, {api.OK, func(c *api.Config) { c.Share = 0 }}, {api.OK, func(c *api.Config) { c.Share = 16 }}, {api.ErrCaps, func(c *api.Config) { c.Share = 17 }},
		{api.ErrMTU, func(c *api.Config) { c.MTU = 0 }}, {api.OK, func(c *api.Config) { c.MTU = 1 }}, {api.ErrMTU, func(c *api.Config) { c.MTU = 65536 }},
		{api.OK, func(c *api.Config) { c.MTU, c.Burst = 65535, 65535 }}, {api.ErrMTU, func(c *api.Config) { c.MTU, c.Burst = most, most }},
		{api.ErrFlows, func(c *api.Config) { c.Flows = nil }}, {api.ErrFlows, func(c *api.Config) { c.Flows = []api.Flow{} }},
		{api.OK, func(c *api.Config) { c.Flows = flows(1) }}, {api.OK, func(c *api.Config) { c.Flows = flows(64) }},
		{api.ErrFlows, func(c *api.Config) { c.Flows = flows(65) }}, {api.ErrFlows, func(c *api.Config) { c.Flows = flows(1000) }},
		{api.ErrTwice, func(c *api.Config) { c.Flows[1].ID = 7 }}, {api.ErrTwice, func(c *api.Config) { c.Flows = append(flows(63), flows(1)...) }},
		{api.ErrTwice, func(c *api.Config) { c.Flows = slices.Repeat(c.Flows[:1], 64) }},
	} {
		c := config()
		x.make(&c)
		checkCheck(t, c, x.err)
		if s, e := Put(c); e != x.err || (s == "") != (e != api.OK) {
			t.Errorf("Put(%.200v) is %q, %d", c, s, e)
		}
	}
}

// 24.1: Rate 0 and 1; Burst of MTU and one less.
func TestRateAndBurst(t *testing.T) {
	for _, mtu := range []uint64{1, 2, 1500, 65535} {
		for _, rate := range []uint64{0, 1, 2, 1 << 32, 1 << 63, most} {
			for _, burst := range []uint64{0, 1, mtu - 1, mtu, mtu + 1, 1 << 32, 1 << 63, most} {
				c := config()
				c.MTU, c.Rate, c.Burst = mtu, rate, burst
				switch {
				case rate == 0:
					checkCheck(t, c, api.ErrRate)
				case burst < mtu:
					checkCheck(t, c, api.ErrBurst)
				default:
					checkCheck(t, c, api.OK)
				}
			}
		}
	}
	for _, c := range []api.Config{config(), least(), greatest()} {
		checkCheck(t, c, api.OK)
	}
	checkCheck(t, api.Config{}, api.ErrKind)
}

// 24.1: which error comes where more than one is due, for Check and for Put.
func TestFirstError(t *testing.T) {
	broken(func(c api.Config, err api.Errno) {
		checkCheck(t, c, err)
		if s, e := Put(c); e != err || (s == "") != (err != api.OK) {
			t.Errorf("Put(%.200v) is %q, %d", c, s, e)
		}
	})
}

// 24.4
func TestOtherBackend(t *testing.T) {
	broken(func(c api.Config, err api.Errno) {
		if c.Back == 4 {
			return
		}
		for c.Back = range 4 {
			if c.Back > 0 {
				checkCheck(t, c, err)
			}
		}
	})
	// What one backend has no use for is looked at nevertheless.
	for back := 1; back <= 3; back++ {
		for n := -1; n <= 34; n++ {
			c, d := least(), least()
			c.Back, c.Levels = back, n
			d.Back, d.Queues = back, n
			if err := Check(c); (err == api.OK) != (n >= 1 && n <= 3) || err != api.OK && err != api.ErrLevels {
				t.Errorf("Check with backend %d and %d levels is %d", back, n, err)
			}
			if err := Check(d); (err == api.OK) != (n >= 1 && n <= 32) || err != api.OK && err != api.ErrQueues {
				t.Errorf("Check with backend %d and %d queues is %d", back, n, err)
			}
		}
	}
}

// 24.1
func TestPut(t *testing.T) {
	one := least()
	one.Flows = []api.Flow{{ID: 1, Cost: 2, Budget: 3, Size: 4, Cap: 5}}
	units := config()
	units.Rank, units.Back, units.Packets, units.Bytes, units.MTU, units.Rate, units.Burst = api.RankSRS, api.BackQueues, 1001, 1500000, 9000, 2000000000, 1000000000000
	units.Flows = []api.Flow{{ID: 4000000000, Cost: 1000, Budget: 999, Size: 1000000, Cap: 18446744073000000000}, {ID: 3, Cap: most}}
	for _, x := range []struct {
		c    api.Config
		want string
	}{
		{config(), whole},
		{least(), "rank stfq\nback heap\nlevels 1\nqueues 1\npackets 1\nbytes 1\nshare 0\nmtu 1\nrate 1\nburst 1\nflow 0 0 0 0 0\n"},
		{one, "rank stfq\nback heap\nlevels 1\nqueues 1\npackets 1\nbytes 1\nshare 0\nmtu 1\nrate 1\nburst 1\nflow 1 2 3 4 5\n"},
		{units, "rank srs\nback queues\nlevels 2\nqueues 4\npackets 1001\nbytes 1500K\nshare 3\nmtu 9K\nrate 2G\nburst 1000G\nflow 4G 1K 999 1M 18446744073G\nflow 3 0 0 0 " + word + "\n"},
	} {
		if s, err := Put(x.c); s != x.want || err != api.OK {
			t.Errorf("Put(%v) is %q, %d", x.c, s, err)
		}
	}
	s, err := Put(greatest())
	start := "rank srs\nback queues\nlevels 3\nqueues 32\npackets 4096\nbytes 281474976710655\nshare 16\nmtu 65535\nrate " + word + "\nburst " + word + "\n"
	var rest strings.Builder
	for i := range 64 {
		rest.WriteString("flow " + strconv.Itoa(last-i) + strings.Repeat(" "+word, 4) + "\n")
	}
	if s != start+rest.String() || err != api.OK {
		t.Errorf("Put of the greatest numbers is %q, %d", s, err)
	}
}

// names are the names of lines with one word, each with such a line of whole.
func names() map[string]string {
	m := map[string]string{}
	for _, l := range strings.Split(whole, "\n") {
		if name, w, ok := strings.Cut(l, " "); ok && name != "flow" {
			m[name] = w
		}
	}
	return m
}

// counts are those whose number is at most 2^31 - 1.
var counts = []string{"levels", "queues", "packets", "share"}

// replaced is whole with the line of this name replaced.
func replaced(name, line string) string {
	return regexp.MustCompile("(?m)^"+name+" .*$").ReplaceAllLiteralString(whole, line)
}

// lineOf is the number of the line of this name in whole.
func lineOf(name string) int {
	return 1 + slices.IndexFunc(strings.Split(whole, "\n"), func(l string) bool { return strings.HasPrefix(l, name+" ") })
}

// 24.2: a text as Put returns it, and what does not matter in it.
func TestRead(t *testing.T) {
	checkGives(t, whole, config())
	for _, s := range []string{
		strings.TrimSuffix(whole, "\n"), whole + "\n", whole + "\n\n\n", "\n" + whole, "\n\n \n\t\n \t \n" + whole, strings.ReplaceAll(whole, "\n", "\n\n"),
		strings.ReplaceAll(whole, "\n", "\n \t\n"), strings.ReplaceAll(whole, " ", "\t"), strings.ReplaceAll(whole, " ", "  \t "), strings.ReplaceAll(whole, "\n", " \n"),
		strings.ReplaceAll(whole, "\n", "\t\t\n"), strings.ReplaceAll(whole, "\n", "\n "), strings.ReplaceAll(whole, "\n", "\n\t \t"), " " + whole + " ", whole + "\t", whole + " \t",
		// Remarks, also such as would be lines but for the #. In the first one
		// the line of the ranks is one, and stands at the end instead.
		"#" + whole + "rank edf", "#\n" + whole, "# a\n" + whole + "# b", whole + "#rate 3\n", whole + " \t#\trate 3\n", whole + "##\n", whole + "#flow 8 0 0 0 0\n", whole + "# flow x\n",
		"#rank\n#rank edf\n#rank edf\n" + whole, strings.ReplaceAll(whole, "\n", "\n# rank edf\n"), whole + "#\r\x00\xff", whole + "# a # b",
		// Numbers in another form.
		strings.Replace(whole, "4K", "4000", 1), strings.Replace(whole, "1M", "1000K", 1), strings.Replace(whole, "3G", "3000000K", 1), strings.Replace(whole, "levels 2", "levels  2", 1),
		strings.Replace(whole, "flow 1K 0 0 0 0", "flow 1000 0K 0M 0G 0", 1), strings.Replace(whole, "5M", "5000000", 1),
	} {
		checkGives(t, s, config())
	}
	long := strings.Repeat("\n", 100000)
	checkGives(t, long+strings.ReplaceAll(whole, " ", strings.Repeat(" ", 3000))+long, config())
}

// 24.2: lines in any order; flows are in that of their lines.
func TestAnyOrder(t *testing.T) {
	next := random(24)
	lines := strings.Split(strings.TrimSuffix(whole, "\n"), "\n")
	byID := map[string]api.Flow{}
	for _, f := range config().Flows {
		byID[strconv.FormatUint(uint64(f.ID), 10)] = f
	}
	byID["1K"] = byID["1000"]
	for range 500 {
		for i := len(lines) - 1; i > 0; i-- {
			j := next(uint64(i + 1))
			lines[i], lines[j] = lines[j], lines[i]
		}
		want := config()
		want.Flows = nil
		for _, l := range lines {
			if w := strings.Fields(l); w[0] == "flow" {
				want.Flows = append(want.Flows, byID[w[1]])
			}
		}
		checkGives(t, strings.Join(lines, "\n"), want)
	}
}

// 24.2: kinds.
func TestReadKinds(t *testing.T) {
	for i, name := range []string{"stfq", "edf", "srs"} {
		want := config()
		want.Rank = i + 1
		checkGives(t, replaced("rank", "rank "+name), want)
	}
	for i, name := range []string{"heap", "calendar", "queues"} {
		want := config()
		want.Back = i + 1
		checkGives(t, replaced("back", "back "+name), want)
	}
	for _, w := range []string{"none", "EDF", "Edf", "STFQ", "SRS", "ed", "edff", "stf", "sr", "srss", "0", "1", "2", "3", "4", "heap", "calendar", "queues", "edf#", "#edf", "#", "edf\r", "\x00", "\xff", "-1", "1K", "K", over} {
		checkRead(t, replaced("rank", "rank "+w), 1, api.ErrKind)
	}
	for _, w := range []string{"none", "HEAP", "Heap", "hea", "heaps", "calendars", "calenda", "queue", "queuess", "0", "1", "2", "3", "4", "stfq", "edf", "srs", "heap#", "#heap", "#", "heap\r", "\x00", "\xff", "-1", "1K", "K", over} {
		checkRead(t, replaced("back", "back "+w), 2, api.ErrKind)
	}
}

// field returns what a line with this name sets.
func field(c api.Config, name string) uint64 {
	switch name {
	case "levels":
		return uint64(c.Levels)
	case "queues":
		return uint64(c.Queues)
	case "packets":
		return uint64(c.Packets)
	case "bytes":
		return c.Bytes
	case "share":
		return uint64(c.Share)
	case "mtu":
		return c.MTU
	case "rate":
		return c.Rate
	}
	return c.Burst
}

// 24.2: numbers with units and without, which set what their names say.
func TestReadNumbers(t *testing.T) {
	for _, x := range []struct {
		name, word string
		want       uint64
	}{
		{"levels", "1", 1}, {"levels", "2", 2}, {"levels", "3", 3}, {"queues", "1", 1}, {"queues", "10", 10}, {"queues", "32", 32}, {"packets", "1", 1}, {"packets", "1K", 1000}, {"packets", "4096", 4096},
		{"bytes", "1", 1}, {"bytes", "1K", 1000}, {"bytes", "7M", 7000000}, {"bytes", "1000G", 1000000000000}, {"bytes", "2305843009213693951", most >> 3},
		{"share", "0", 0}, {"share", "0K", 0}, {"share", "1", 1}, {"share", "16", 16}, {"mtu", "1", 1}, {"mtu", "2K", 2000}, {"mtu", "3000", 3000},
		{"rate", "1", 1}, {"rate", "1K", 1000}, {"rate", "1M", 1000000}, {"rate", "1G", 1000000000}, {"rate", "18446744073G", 18446744073000000000}, {"rate", "18446744073709551614", most - 1}, {"rate", word, most},
		{"burst", "1500", 1500}, {"burst", "2K", 2000}, {"burst", "1G", 1000000000}, {"burst", "18446744073709551K", 18446744073709551000}, {"burst", "9223372036854775808", 1 << 63}, {"burst", word, most},
	} {
		c, line, err := Read(replaced(x.name, x.name+" "+x.word))
		if field(c, x.name) != x.want || line != 0 || err != api.OK {
			t.Errorf("%s %s is %v, %d, %d", x.name, x.word, c, line, err)
		}
		for name := range names() {
			if name != x.name && name != "rank" && name != "back" && field(c, name) != field(config(), name) {
				t.Errorf("%s %s changed %s to %d", x.name, x.word, name, field(c, name))
			}
		}
	}
}

// 24.2: numbers that Check refuses when the lines have been read.
func TestReadThenCheck(t *testing.T) {
	for _, x := range []struct {
		name, words string
		err         api.Errno
	}{
		{"levels", "0", api.ErrLevels}, {"levels", "4", api.ErrLevels}, {"levels", "2147483647", api.ErrLevels}, {"levels", "2G", api.ErrLevels}, {"levels", "1K", api.ErrLevels},
		{"queues", "0", api.ErrQueues}, {"queues", "33", api.ErrQueues}, {"queues", "2147483647", api.ErrQueues}, {"queues", "2147483K", api.ErrQueues},
		{"packets", "0", api.ErrCaps}, {"packets", "4097", api.ErrCaps}, {"packets", "2147483647", api.ErrCaps}, {"packets", "2147M", api.ErrCaps},
		{"bytes", "0", api.ErrCaps}, {"bytes", "2305843009213693952", api.ErrCaps}, {"bytes", word, api.ErrCaps}, {"share", "17", api.ErrCaps}, {"share", "2147483647", api.ErrCaps},
		{"mtu", "0", api.ErrMTU}, {"mtu", "65536", api.ErrMTU}, {"mtu", "2147483648", api.ErrMTU}, {"mtu", word, api.ErrMTU}, {"mtu", "3001", api.ErrBurst},
		{"rate", "0", api.ErrRate}, {"rate", "0G", api.ErrRate}, {"burst", "0", api.ErrBurst}, {"burst", "1499", api.ErrBurst}, {"burst", "1K", api.ErrBurst},
	} {
		checkRead(t, replaced(x.name, x.name+" "+x.words), 0, x.err)
	}
	many := strings.TrimSuffix(whole, "\n")
	for i := range 62 {
		many += "\nflow " + strconv.Itoa(50+i) + " 1 2 3 4"
		switch _, line, err := Read(many); {
		case i < 61 && (line != 0 || err != api.OK):
			t.Errorf("%d flows are %d, %d", 4+i, line, err)
		case i == 61:
			checkRead(t, many, 0, api.ErrFlows)
		}
	}
	checkRead(t, many+"\nflow 7 0 0 0 0", 0, api.ErrFlows)
	checkRead(t, many+"\nflow 7 0 0 0", 76, api.ErrLine)
	checkRead(t, whole+"flow 7 0 0 0 0\n", 0, api.ErrTwice)
	checkRead(t, whole+"flow 1000 0 0 0 0\n", 0, api.ErrTwice)
	checkRead(t, whole+whole[strings.Index(whole, "flow"):], 0, api.ErrTwice)
	checkRead(t, replaced("flow", ""), 0, api.ErrFlows)
}

// 24.2: texts with names lacking, down to the empty one.
func TestLacking(t *testing.T) {
	for _, s := range []string{"", " ", "\t", "\n", "\n\n\n", "#", "#\n# rank edf\n", " \t\n\t "} {
		checkRead(t, s, 0, api.ErrKind)
	}
	for name, err := range map[string]api.Errno{
		"rank": api.ErrKind, "back": api.ErrKind, "levels": api.ErrLevels, "queues": api.ErrQueues, "packets": api.ErrCaps,
		"bytes": api.ErrCaps, "mtu": api.ErrMTU, "rate": api.ErrRate, "burst": api.ErrBurst, "flow": api.ErrFlows,
	} {
		checkRead(t, replaced(name, ""), 0, err)
		checkRead(t, replaced(name, "#"+name+" 1"), 0, err)
	}
	// What is not given is 0, and a share may be 0.
	c := config()
	c.Share = 0
	checkGives(t, replaced("share", ""), c)
	// The first lines alone.
	lines := strings.SplitAfter(whole, "\n")
	errs := []api.Errno{api.ErrKind, api.ErrKind, api.ErrLevels, api.ErrQueues, api.ErrCaps, api.ErrCaps, api.ErrMTU, api.ErrMTU, api.ErrFlows, api.ErrFlows, api.ErrFlows, api.OK, api.OK, api.OK}
	for i, err := range errs {
		checkRead(t, strings.Join(lines[:i], ""), 0, err)
	}
}

// 24.2: names that there are not.
func TestNoName(t *testing.T) {
	for _, l := range []string{
		"bock", "bock 1", "bock 1 2", "bock 1 2 3 4 5", "Rank edf", "RANK edf", "ran edf", "ranks edf", "rank: edf", "rank=edf", "rank,edf", "rank\x00edf", "rank\redf", "rank\x0bedf", "rank\u00a0edf",
		"level 2", "queue 4", "packet 4", "byte 4", "shares 3", "MTU 1500", "rates 10", "bursts 3K", "flows 9 0 0 0 0", "Flow 9 0 0 0 0", "flo 9 0 0 0 0", "cap 3", "1", "-", "\x00", "\xff", "\r", "\v", "\f", "\u00a0",
		";", "//", "// a", "-# a", "\x00#", "edf", "edf rank", "1500 mtu", "\"rank\" edf", "\ufeffrank edf",
	} {
		checkRead(t, l, 1, api.ErrLine)
		checkRead(t, whole+l, 14, api.ErrLine)
		checkRead(t, whole+" \t"+l+"\n", 14, api.ErrLine)
	}
	checkRead(t, strings.ReplaceAll(whole, "\n", "\r\n"), 1, api.ErrKind)
	checkRead(t, "\r\n"+whole, 1, api.ErrLine)
	checkRead(t, strings.ReplaceAll(whole, "\n", "\r"), 1, api.ErrLine)
}

// 24.2: for each name one word too few, one too many, and other numbers.
func TestNumberOfWords(t *testing.T) {
	for name, w := range names() {
		n := lineOf(name)
		for _, rest := range []string{"", " ", "\t", " " + w + " " + w, " " + w + " x", " x " + w, " " + w + " #", " " + w + " # a", " # " + w, " 1 2 3", " 1 2 3 4 5", " x y", " x y z", " " + over + " 1"} {
			checkRead(t, replaced(name, name+rest), n, api.ErrLine)
			checkRead(t, name+rest, 1, api.ErrLine)
		}
	}
	for _, rest := range []string{"", " ", " 1", " 1 2", " 1 2 3", " 1 2 3 4", " 1 2 3 4 5 6", " 1 2 3 4 5 #", " 1 2 3 4 5 6 7", " x", " x y z u", " x y z u v w", " " + over, " 1 2 3 4 5\t#6"} {
		checkRead(t, whole+"flow"+rest, 14, api.ErrLine)
		checkRead(t, "flow"+rest+"\n"+whole, 1, api.ErrLine)
	}
}

// 24.2: a name twice, with the same word or another one, right or wrong; and
// the lines of flows, of which there may be many.
func TestTwice(t *testing.T) {
	checkRead(t, "rank edf\nrank edf", 2, api.ErrLine)
	checkRead(t, "rank edf\nrank edf\n", 2, api.ErrLine)
	for name, w := range names() {
		for _, other := range []string{w, "1", "0", "x", "007", over, "99999999999", "heap", "stfq", "1 2", ""} {
			checkRead(t, whole+name+" "+other, 14, api.ErrLine)
			checkRead(t, name+" "+w+"\n"+name+" "+other, 2, api.ErrLine)
			checkRead(t, "\n# "+name+" 1\n"+name+" "+w+"\n\n#\n"+name+" "+other, 6, api.ErrLine)
		}
		// Only the first wrong line counts.
		err := api.ErrForm
		if name == "rank" || name == "back" {
			err = api.ErrKind
		}
		checkRead(t, name+" \x00\n"+whole, 1, err)
		checkRead(t, whole+name+" "+w+"\n"+name+" x\nbock", 14, api.ErrLine)
	}
	var all strings.Builder
	all.WriteString(replaced("flow", ""))
	want := config()
	want.Flows = nil
	for i := range 64 {
		all.WriteString("flow " + strconv.Itoa(i) + " 5 6 7 8\n")
		want.Flows = append(want.Flows, api.Flow{ID: uint32(i), Cost: 5, Budget: 6, Size: 7, Cap: 8})
	}
	checkGives(t, all.String(), want)
}

// 24.2: words that are no numbers, and numbers that are too great.
func TestWrongNumbers(t *testing.T) {
	forms := []string{"x", "-1", "+1", "-0", "00", "02", "007", "0x1", "1.0", "1e3", "1_0", "K", "M", "G", "1k", "1m", "1g", "1KK", "1KM", "K1", "1T", "01K", "edf", "2#", "#2", "#", "2\r", "\x00", "\xff", "\u0661", "0" + word, "x" + over, over + "x", "-" + over}
	overs := []string{over, over + "K", "18446744073709551616K", "18446744073709552K", "18446744073710M", "18446744074G", word + "K", "99999999999999999999", "1" + strings.Repeat("0", 1000)}
	for name := range names() {
		if name == "rank" || name == "back" {
			continue
		}
		for _, w := range forms {
			checkRead(t, replaced(name, name+" "+w), lineOf(name), api.ErrForm)
		}
		for _, w := range overs {
			checkRead(t, replaced(name, name+" "+w), lineOf(name), api.ErrOver)
		}
	}
	for i := range 5 {
		for _, w := range forms {
			l := []string{"flow", "8", "1", "2", "3", "4"}
			l[i+1] = w
			checkRead(t, whole+strings.Join(l, " "), 14, api.ErrForm)
		}
		for _, w := range overs {
			l := []string{"flow", "8", "1", "2", "3", "4"}
			l[i+1] = w
			checkRead(t, whole+strings.Join(l, " "), 14, api.ErrOver)
		}
	}
}

// 24.2: levels, queues, packets and share of 2^31 - 1 and one more, an ID of
// 2^32 - 1 and one more; other numbers have no such bound.
func TestBounds(t *testing.T) {
	bound := map[string]api.Errno{"levels": api.ErrLevels, "queues": api.ErrQueues, "packets": api.ErrCaps, "share": api.ErrCaps}
	for _, name := range counts {
		for _, w := range []string{"2147483646", "2147483647", "2147483K", "2147M", "2G"} {
			checkRead(t, replaced(name, name+" "+w), 0, bound[name])
		}
		for _, w := range []string{"2147483648", "2147483649", "2147484K", "2148M", "3G", "4294967295", "4294967296", "4294967297", "4294967298", "1000G", "9223372036854775808", word} {
			checkRead(t, replaced(name, name+" "+w), lineOf(name), api.ErrOver)
		}
	}
	for _, name := range []string{"rate", "burst"} {
		for _, w := range []string{"2147483647", "2147483648", "4294967295", "4294967296", "3G", word} {
			checkRead(t, replaced(name, name+" "+w), 0, api.OK)
		}
	}
	for w, id := range map[string]uint32{"0": 0, "1": 1, "2147483647": 1<<31 - 1, "2147483648": 1 << 31, "4G": 4000000000, "4294967K": 4294967000, "4294967294": last - 1} {
		want := config()
		want.Flows = append(want.Flows, api.Flow{ID: id})
		checkGives(t, whole+"flow "+w+" 0 0 0 0", want)
	}
	for _, w := range []string{"4294967296", "4294967297", "4294967303", "4294968K", "4295M", "5G", "9223372036854775808", word} {
		checkRead(t, whole+"flow "+w+" 0 0 0 0", 14, api.ErrOver)
	}
	for i := range 4 {
		for w, n := range map[string]uint64{"2147483648": 1 << 31, "4294967296": 1 << 32, "18446744073G": 18446744073000000000, word: most} {
			l := []string{"flow", "8", "0", "0", "0", "0"}
			l[i+2] = w
			f := api.Flow{ID: 8}
			*[]*uint64{&f.Cost, &f.Budget, &f.Size, &f.Cap}[i] = n
			want := config()
			want.Flows = append(want.Flows, f)
			checkGives(t, whole+strings.Join(l, " "), want)
		}
	}
}

// 24.2: in a line with more than one wrong word, the first one counts.
func TestFirstWord(t *testing.T) {
	errs := map[string]api.Errno{"5": api.OK, "x": api.ErrForm, over: api.ErrOver}
	for a, first := range errs {
		for b, second := range errs {
			for i := range 5 {
				for j := i + 1; j < 5; j++ {
					l := []string{"flow", "1", "2", "3", "4", "5"}
					l[i+1], l[j+1] = a, b
					if err := cmp.Or(first, second); err != api.OK {
						checkRead(t, whole+strings.Join(l, " "), 14, err)
					}
				}
			}
		}
	}
	checkRead(t, "flow 4294967296 x x x x", 1, api.ErrOver)
	checkRead(t, "flow x "+over+" 0 0 0", 1, api.ErrForm)
	checkRead(t, "flow 0 x "+over+" 0 0", 1, api.ErrForm)
	checkRead(t, "flow 0 "+over+" x 0 0", 1, api.ErrOver)
	checkRead(t, "flow 4294967296 x x x", 1, api.ErrLine)
	checkRead(t, "flow 4294967296 x x x x x", 1, api.ErrLine)
}

// 24.2: a wrong line ahead of another one, and behind lines that are ignored.
func TestFirstLine(t *testing.T) {
	wrong := map[string]api.Errno{
		"bock": api.ErrLine, "rank": api.ErrLine, "rank x": api.ErrKind, "back x": api.ErrKind, "levels x": api.ErrForm, "levels 3G": api.ErrOver, "rate " + over: api.ErrOver,
		"rate 1 2": api.ErrLine, "flow 1": api.ErrLine, "flow x 0 0 0 0": api.ErrForm, "flow 5G 0 0 0 0": api.ErrOver,
	}
	for a, first := range wrong {
		for b := range wrong {
			checkRead(t, a+"\n"+b, 1, first)
			checkRead(t, a+"\n"+b+"\n"+whole, 1, first)
			checkRead(t, "\n"+a+"\n\n"+b, 2, first)
			checkRead(t, "# a\n\t\n# b\nmtu 0\n \n"+a+"\n"+b+"\n", 6, first)
			checkRead(t, "flow 3 0 0 0 0\nflow 3 0 0 0 0\n"+a+"\n"+b, 3, first)
		}
		for _, n := range []int{1, 9, 255, 256, 65535, 65536, 70000} {
			checkRead(t, strings.Repeat("\n", n)+a, n+1, first)
			checkRead(t, strings.Repeat("# a\n", n)+a+"\n", n+1, first)
		}
	}
	// Wrong lines come ahead of what Check says of the rest.
	checkRead(t, replaced("levels", "levels 9")+"rate 3", 14, api.ErrLine)
	checkRead(t, "levels 0\nrate 0\nflow 1 0 0 0 0\nflow 1 0 0 0 0\nbock", 5, api.ErrLine)
}

// 24.3, with Put of what was read, for all kinds and many numbers.
func TestReadInvertsPut(t *testing.T) {
	next := random(243)
	number := func() uint64 {
		n := next(1<<31) << next(34) >> next(40)
		return []uint64{n, n, n - n%1000, n - n%1000000, n - n%1000000000, 0, 1, most - next(3), 1<<32 - 1 + next(3), next(9) * 1000000000, 1<<31 - 1 + next(2)}[next(11)]
	}
	all := []api.Config{config(), least(), greatest()}
	for range 6000 {
		c := api.Config{
			Rank: int(next(3)) + 1, Back: int(next(3)) + 1, Levels: int(next(3)) + 1, Queues: int(next(32)) + 1, Packets: int(next(4096)) + 1, Bytes: number(), Share: int(next(17)),
			MTU: next(65535) + 1, Rate: number(), Burst: number(), Flows: flows(int(next(9)*next(9)) % 65),
		}
		for i := range c.Flows {
			f := &c.Flows[i]
			f.Cost, f.Budget, f.Size, f.Cap = number(), number(), number(), number()
		}
		all = append(all, c)
	}
	right := 0
	for _, c := range all {
		s, err := Put(c)
		if e := Check(c); e != err || (s == "") != (e != api.OK) {
			t.Fatalf("Put(%v) is %q, %d, and Check is %d", c, s, err, e)
		}
		if err != api.OK {
			continue
		}
		right++
		checkGives(t, s, c)
		if lines := strings.Count(s, "\n"); lines != 10+len(c.Flows) || !strings.HasSuffix(s, "\n") {
			t.Errorf("%q has %d lines", s, lines)
		}
		checkRead(t, s+s, 11+len(c.Flows), api.ErrLine)
	}
	if right < 1000 {
		t.Errorf("only %d configurations were valid", right)
	}
}

var (
	words   = regexp.MustCompile(`[^ \t]+`)
	decimal = regexp.MustCompile(`^(0|[1-9][0-9]*)([KMG]?)$`)
)

// model does what Read should, by the definition.
func model(s string) (api.Config, int, api.Errno) {
	var c api.Config
	seen := map[string]bool{}
	for i, l := range strings.Split(s, "\n") {
		w := words.FindAllString(l, -1)
		if len(w) == 0 || w[0][0] == '#' {
			continue
		}
		if err := modelLine(&c, seen, w); err != api.OK {
			return api.Config{}, i + 1, err
		}
	}
	err := Check(c)
	if err != api.OK {
		c = api.Config{}
	}
	return c, 0, err
}

func modelLine(c *api.Config, seen map[string]bool, w []string) api.Errno {
	form, ok := map[string]string{"rank": "r", "back": "b", "levels": "c", "queues": "c", "packets": "c", "bytes": "n", "share": "c", "mtu": "n", "rate": "n", "burst": "n", "flow": "innnn"}[w[0]]
	if !ok || len(w)-1 != len(form) || seen[w[0]] && w[0] != "flow" {
		return api.ErrLine
	}
	seen[w[0]] = true
	var got []uint64
	for i, f := range form {
		n, err := modelWord(f, w[i+1])
		if err != api.OK {
			return err
		}
		got = append(got, n)
	}
	n := got[0]
	switch w[0] {
	case "rank":
		c.Rank = int(n)
	case "back":
		c.Back = int(n)
	case "levels":
		c.Levels = int(n)
	case "queues":
		c.Queues = int(n)
	case "packets":
		c.Packets = int(n)
	case "bytes":
		c.Bytes = n
	case "share":
		c.Share = int(n)
	case "mtu":
		c.MTU = n
	case "rate":
		c.Rate = n
	case "burst":
		c.Burst = n
	case "flow":
		c.Flows = append(c.Flows, api.Flow{ID: uint32(n), Cost: got[1], Budget: got[2], Size: got[3], Cap: got[4]})
	}
	return api.OK
}

func modelWord(form rune, w string) (uint64, api.Errno) {
	if form == 'r' || form == 'b' {
		l := map[rune][]string{'r': {"stfq", "edf", "srs"}, 'b': {"heap", "calendar", "queues"}}[form]
		if i := slices.Index(l, w); i >= 0 {
			return uint64(i + 1), api.OK
		}
		return 0, api.ErrKind
	}
	m := decimal.FindStringSubmatch(w)
	if m == nil {
		return 0, api.ErrForm
	}
	n, _ := new(big.Int).SetString(m[1], 10)
	n.Mul(n, big.NewInt(map[string]int64{"": 1, "K": 1000, "M": 1000000, "G": 1000000000}[m[2]]))
	if bits := map[rune]int{'c': 31, 'i': 32, 'n': 64}[form]; n.BitLen() > bits {
		return 0, api.ErrOver
	}
	return n.Uint64(), api.OK
}

// 24.2: texts with some lines changed, against the definition.
func TestModel(t *testing.T) {
	next := random(242)
	pick := func(l ...string) string { return l[next(uint64(len(l)))] }
	blank := func() string { return pick(" ", " ", " ", "\t", "  ", "\t \t") }
	number := func() string {
		return pick("0", "1", "2", "3", "4", "17", "32", "33", "1500", "1K", "4K", "2M", "1G", "3G", "5G", "007", "x", "-1", "K", "2147483647", "2147483648", "4294967295", "4294967296", word, over, "#", "1#", "18446744074G")
	}
	kind := func() string {
		return pick("rank", "rank", "back", "levels", "queues", "packets", "bytes", "share", "mtu", "rate", "burst", "flow", "bock", "#rank", "Rank") + blank() + pick("edf", "srs", "heap", "queues", "none", number())
	}
	line := func() string {
		return pick("", "", " ", "# a b", "#", kind(), kind(), "flow"+blank()+number()+" 1 2"+blank()+number()+" "+number(), "flow "+number()+" 3 4 5 6", "flow 1 2 3", "flow 1 2 3 4 5 6")
	}
	found := map[api.Errno]int{}
	for i := range 60000 {
		l := strings.Split(whole, "\n")
		switch i % 8 {
		case 0:
			l = l[next(uint64(len(l))):]
		case 1:
			l = l[:next(uint64(len(l)))]
		}
		for range next(4) {
			j := int(next(uint64(len(l) + 1)))
			switch next(3) {
			case 0:
				l = slices.Insert(l, j, line())
			case 1:
				l = slices.Delete(l, j, min(j+1, len(l)))
			case 2:
				l = slices.Replace(l, j, min(j+1, len(l)), line())
			}
		}
		s := strings.Join(l, "\n")
		c, n, err := Read(s)
		if want, m, e := model(s); !same(c, want) || n != m || err != e {
			t.Fatalf("Read(%q) is %v, %d, %d, not %v, %d, %d", s, c, n, err, want, m, e)
		}
		found[err]++
	}
	for _, err := range []api.Errno{api.OK, api.ErrLine, api.ErrKind, api.ErrForm, api.ErrOver, api.ErrLevels, api.ErrQueues, api.ErrCaps, api.ErrMTU, api.ErrFlows, api.ErrTwice, api.ErrRate, api.ErrBurst} {
		if found[err] < 10 {
			t.Errorf("error %d came %d times", err, found[err])
		}
	}
}

// P1, and 24.2 against the definition: texts of any bytes.
func TestAnyBytes(t *testing.T) {
	next := random(1)
	alphabet := []string{"\n", "\n", " ", "\t", "#", "rank", "edf", "flow", "levels", "1", "2", "K", "0", "\x00", "\xff", "\r", "x", "\u00e9"}
	for range 30000 {
		var b strings.Builder
		for range next(20) {
			b.WriteString(alphabet[next(uint64(len(alphabet)))])
		}
		_, n, err := Read(b.String())
		if _, m, e := model(b.String()); n != m || err != e {
			t.Fatalf("Read(%q) is %d, %d, not %d, %d", b.String(), n, err, m, e)
		}
	}
	for n := range 256 {
		s := string([]byte{byte(n)})
		_, m, e := model(s)
		checkRead(t, s, m, e)
		checkRead(t, strings.Repeat(s, 100000), m, e)
	}
	checkRead(t, strings.Repeat("flow ", 1000000), 1, api.ErrLine)
	checkRead(t, strings.Repeat("flow 1 2 3 4 5\n", 100000), 0, api.ErrKind)
}

// P2, ownership: calls change nothing of a configuration, and what they return
// shares nothing with it or with another result.
func TestOwnership(t *testing.T) {
	given := config()
	Check(given)
	s, _ := Put(given)
	if !same(given, config()) {
		t.Errorf("the configuration became %v", given)
	}
	clear(given.Flows)
	if s != whole {
		t.Errorf("the text became %q", s)
	}
	a, _, _ := Read(whole)
	b, _, _ := Read(whole)
	clear(a.Flows)
	_ = append(a.Flows[:1], a.Flows...)
	if !same(b, config()) {
		t.Errorf("another configuration became %v", b)
	}
	checkGives(t, whole, config())
}

// P2: what was read or refused earlier changes nothing.
func TestAgain(t *testing.T) {
	wrong := replaced("rate", "rate x")
	for range 3 {
		checkGives(t, whole, config())
		checkRead(t, wrong, lineOf("rate"), api.ErrForm)
		checkRead(t, "", 0, api.ErrKind)
		checkRead(t, "rank edf\nrank edf", 2, api.ErrLine)
		checkRead(t, "rank edf", 0, api.ErrKind)
		c := copied(config())
		checkCheck(t, c, api.OK)
		c.Rate = 0
		checkCheck(t, c, api.ErrRate)
		if s, err := Put(c); s != "" || err != api.ErrRate {
			t.Errorf("Put is %q, %d", s, err)
		}
		if s, err := Put(least()); !strings.HasPrefix(s, "rank stfq\n") || err != api.OK {
			t.Errorf("Put is %q, %d", s, err)
		}
	}
}
