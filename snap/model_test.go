package snap

import (
	"encoding/binary"
	"hash/adler32"
	"math"
	"reflect"
	"slices"
	"strconv"
	"strings"
	"testing"

	"pacemaker/api"
	"pacemaker/conf"
	"pacemaker/shaper"
)

const (
	most = api.MaxU64
	last = math.MaxUint32 // the greatest ID
)

func in(flow, id uint32, n uint64) api.Op {
	return api.Op{Kind: api.OpEnqueue, Flow: flow, ID: id, Len: n}
}

func tick(n uint64) api.Op { return api.Op{Kind: api.OpTick, Ticks: n} }

var (
	out   = api.Op{Kind: api.OpDequeue}
	stats = api.Op{Kind: api.OpStats}
)

// at returns a packet with its rank.
func at(rank uint64, flow, id uint32, n uint64) api.Ranked {
	return api.Ranked{Rank: rank, Packet: api.Packet{Flow: flow, ID: id, Len: n}}
}

// config is a configuration in which every limit is soon reached.
func config() api.Config {
	return api.Config{
		Rank: api.RankSTFQ, Back: api.BackHeap, Levels: 1, Queues: 2, Packets: 8, Bytes: 60, Share: 1, MTU: 10, Rate: 2, Burst: 12,
		Flows: []api.Flow{
			{ID: 1, Cost: 2, Budget: 9, Size: 100, Cap: 30},
			{ID: 2, Cost: 1, Budget: 5, Size: 20, Cap: 40},
			{ID: 7, Cap: 60},
		},
	}
}

// wide is a configuration with great numbers, in which many packets may wait.
func wide() api.Config {
	c := config()
	c.Packets, c.Bytes, c.Share, c.MTU, c.Rate, c.Burst = 4096, most>>1, 1, 65535, 300, 1<<40
	for i := range c.Flows {
		c.Flows[i] = api.Flow{ID: last - uint32(i)<<20, Cost: 1<<33 + uint64(i), Budget: 1 << 50, Size: most - uint64(i), Cap: most}
	}
	return c
}

// least has the least number of everything with which a packet may wait.
func least() api.Config {
	return api.Config{Rank: 1, Back: 1, Levels: 1, Queues: 1, Packets: 1, Bytes: 1, MTU: 1, Rate: 1, Burst: 1, Flows: []api.Flow{{Cap: 1}}}
}

// greatest has the greatest number of everything, and the most flows.
func greatest() api.Config {
	c := api.Config{Rank: 3, Back: 3, Levels: 3, Queues: 32, Packets: 4096, Bytes: most >> 16, Share: 16, MTU: 65535, Rate: most, Burst: most}
	for i := range uint32(64) {
		c.Flows = append(c.Flows, api.Flow{ID: last - i, Cost: most, Budget: most, Size: most, Cap: most})
	}
	return c
}

// kinds returns c with each kind of ranks and of backend.
func kinds(c api.Config) []api.Config {
	var l []api.Config
	add := func(back, levels, queues int) {
		for rank := api.RankSTFQ; rank <= api.RankSRS; rank++ {
			c.Rank, c.Back, c.Levels, c.Queues = rank, back, levels, queues
			l = append(l, c)
		}
	}
	add(api.BackHeap, 1, 2)
	for levels := range 3 {
		add(api.BackCalendar, levels+1, 2)
	}
	for _, queues := range []int{1, 2, 32} {
		add(api.BackQueues, 1, queues)
	}
	return l
}

// random returns a function whose result is less than n.
func random(seed uint64) func(n uint64) uint64 {
	return func(n uint64) uint64 {
		seed = seed*6364136223846793005 + 1442695040888963407
		return seed >> 33 % n
	}
}

// anyNumber returns a number of any size.
func anyNumber(next func(n uint64) uint64) uint64 {
	n := next(1<<31)<<33 ^ next(1<<31)<<16 ^ next(1<<31)
	return n >> next(64)
}

// anyOp returns an operation, most often one that is not refused by c.
func anyOp(c api.Config, next func(n uint64) uint64) api.Op {
	id := uint32(next(1<<31) << next(2))
	flow := c.Flows[next(uint64(len(c.Flows)))].ID
	switch next(20) {
	case 0:
		return stats
	case 1:
		return []api.Op{{Kind: api.OpTorn}, {Kind: api.OpJunk, Len: next(256)}, {Kind: 6}, {Kind: -1}, tick(0)}[next(5)]
	case 2:
		return in(id, id, 1+next(c.MTU))
	case 3:
		return in(flow, id, []uint64{0, c.MTU, c.MTU + 1, most}[next(4)])
	case 4, 5, 6, 7:
		return tick(next(4))
	case 8, 9, 10, 11:
		return out
	}
	return in(flow, id, 1+next(c.MTU))
}

// anyOps returns n such operations. More packets come than may leave, but for a
// while now and then in which none come.
func anyOps(c api.Config, seed uint64, n int) []api.Op {
	next := random(seed)
	l := make([]api.Op, n)
	for i := range l {
		l[i] = anyOp(c, next)
		if l[i].Kind == api.OpEnqueue && i/40%3 == 1 {
			l[i] = []api.Op{tick(9), out}[next(2)]
		}
	}
	return l
}

// made makes a shaper.
func made(t *testing.T, c api.Config) *shaper.Shaper {
	t.Helper()
	s, err := shaper.New(c)
	if err != api.OK {
		t.Fatalf("New(%v) is %d", c, err)
	}
	return s
}

// after returns the state that operations lead to.
func after(t *testing.T, c api.Config, l ...api.Op) api.State {
	t.Helper()
	s := made(t, c)
	s.Run(l)
	return s.State()
}

// anyState returns a state that Load allows for c, not only one that operations
// lead to. All flows of c must be allowed to have some packets that wait.
func anyState(c api.Config, next func(n uint64) uint64) api.State {
	st := api.State{Now: anyNumber(next), Tokens: min(anyNumber(next), c.Burst), Virtual: anyNumber(next)}
	for i := range st.Refused {
		if next(2) == 0 {
			st.Refused[i] = anyNumber(next)
		}
	}
	for range c.Flows {
		st.Tags = append(st.Tags, anyNumber(next))
	}
	lists := 1
	if c.Back == api.BackQueues {
		lists = c.Queues
		for range lists {
			st.Bounds = append(st.Bounds, anyNumber(next))
		}
		slices.Sort(st.Bounds)
	}
	st.Queues = make([][]api.Ranked, lists)
	for range next(5) {
		i := next(uint64(lists))
		flow := c.Flows[next(uint64(len(c.Flows)))].ID
		st.Queues[i] = append(st.Queues[i], at(anyNumber(next), flow, uint32(anyNumber(next)), 1+next(c.MTU)))
	}
	if c.Back != api.BackQueues {
		slices.SortStableFunc(st.Queues[0], func(a, b api.Ranked) int {
			if a.Rank == b.Rank {
				return 0
			}
			if a.Rank < b.Rank {
				return -1
			}
			return 1
		})
	}
	return st
}

// copied returns a state that shares no memory with st.
func copied(st api.State) api.State {
	st.Tags, st.Bounds = slices.Clone(st.Tags), slices.Clone(st.Bounds)
	st.Queues = slices.Clone(st.Queues)
	for i, l := range st.Queues {
		st.Queues[i] = slices.Clone(l)
	}
	return st
}

// same tells whether two states are the same; nil and empty lists are.
func same(a, b api.State) bool {
	return a.Now == b.Now && a.Tokens == b.Tokens && a.Virtual == b.Virtual && a.Refused == b.Refused &&
		slices.Equal(a.Tags, b.Tags) && slices.Equal(a.Bounds, b.Bounds) && slices.EqualFunc(a.Queues, b.Queues, slices.Equal)
}

// sameConfig tells whether two configurations are the same.
func sameConfig(a, b api.Config) bool {
	if !slices.Equal(a.Flows, b.Flows) {
		return false
	}
	a.Flows, b.Flows = nil, nil
	return reflect.DeepEqual(a, b)
}

// unit returns n with its unit (3.2).
func unit(n uint64) string {
	for _, u := range []struct {
		size   uint64
		letter string
	}{{1e9, "G"}, {1e6, "M"}, {1e3, "K"}} {
		if n > 0 && n%u.size == 0 {
			return strconv.FormatUint(n/u.size, 10) + u.letter
		}
	}
	return strconv.FormatUint(n, 10)
}

// textOf returns the text of a configuration (24).
func textOf(c api.Config) string {
	s := "rank " + []string{"stfq", "edf", "srs"}[c.Rank-1] + "\nback " + []string{"heap", "calendar", "queues"}[c.Back-1] + "\n"
	names := strings.Fields("levels queues packets bytes share mtu rate burst")
	for i, n := range []uint64{uint64(c.Levels), uint64(c.Queues), uint64(c.Packets), c.Bytes, uint64(c.Share), c.MTU, c.Rate, c.Burst} {
		s += names[i] + " " + unit(n) + "\n"
	}
	for _, f := range c.Flows {
		s += "flow " + unit(uint64(f.ID)) + " " + unit(f.Cost) + " " + unit(f.Budget) + " " + unit(f.Size) + " " + unit(f.Cap) + "\n"
	}
	return s
}

// piece is the encoding of a field, and what the field is for.
type piece struct {
	what string // text, number, count, refused (how many follow) or word
	s    string
}

// variable returns n as a Var.
func variable(n uint64) string { return string(binary.AppendUvarint(nil, n)) }

// pieces are the encodings of the fields of a snapshot.
func pieces(text string, st api.State) []piece {
	l := []piece{{"text", variable(uint64(len(text))) + text}}
	numbers := func(numbers ...uint64) {
		for _, n := range numbers {
			l = append(l, piece{"number", variable(n)})
		}
	}
	words := func(numbers ...uint32) {
		for _, n := range numbers {
			l = append(l, piece{"word", string(binary.BigEndian.AppendUint32(nil, n))})
		}
	}
	count := func(n int) { l = append(l, piece{"count", variable(uint64(n))}) }
	numbers(st.Now, st.Tokens, st.Virtual)
	l = append(l, piece{"refused", variable(32)})
	numbers(st.Refused[:]...)
	count(len(st.Tags))
	numbers(st.Tags...)
	count(len(st.Bounds))
	numbers(st.Bounds...)
	count(len(st.Queues))
	for _, q := range st.Queues {
		count(len(q))
		for _, x := range q {
			numbers(x.Rank)
			words(x.Packet.Flow, x.Packet.ID)
			numbers(x.Packet.Len)
		}
	}
	return l
}

// joined are pieces, one after the other.
func joined(l []piece) string {
	var b strings.Builder
	for _, p := range l {
		b.WriteString(p.s)
	}
	return b.String()
}

// sealed is s with its checksum.
func sealed(s string) string {
	return string(binary.BigEndian.AppendUint32([]byte(s), adler32.Checksum([]byte(s))))
}

// encoded is the snapshot of a text and a state.
func encoded(text string, st api.State) string {
	return sealed(joined(pieces(text, st)))
}

// input is what the model reads; it is bad as soon as something is wrong.
type input struct {
	s   string
	bad bool
}

// cut returns the first n bytes.
func (in *input) cut(n uint64) string {
	if in.bad || n > uint64(len(in.s)) {
		in.bad = true
		return ""
	}
	s := in.s[:n]
	in.s = in.s[n:]
	return s
}

func (in *input) number() uint64 {
	n, size := binary.Uvarint([]byte(in.s))
	if size <= 0 || in.cut(uint64(size)) != variable(n) {
		in.bad = true
		return 0
	}
	return n
}

func (in *input) word() uint32 {
	s := in.cut(4)
	if in.bad {
		return 0
	}
	return binary.BigEndian.Uint32([]byte(s))
}

func (in *input) numbers() []uint64 {
	var l []uint64
	for n := in.number(); n > 0 && !in.bad; n-- {
		l = append(l, in.number())
	}
	return l
}

// decoded is what Take should return.
func decoded(s string) (api.Config, api.State, api.Errno) {
	body := s[:max(len(s)-4, 0)]
	if len(s) < 4 || sealed(body) != s {
		return api.Config{}, api.State{}, api.ErrSum
	}
	in := input{s: body}
	size := in.number()
	in.bad = in.bad || size > 65535
	text := in.cut(size)
	st := api.State{Now: in.number(), Tokens: in.number(), Virtual: in.number()}
	refused := in.numbers()
	in.bad = in.bad || copy(st.Refused[:], refused) != 32 || len(refused) > 32
	st.Tags, st.Bounds = in.numbers(), in.numbers()
	for n := in.number(); n > 0 && !in.bad; n-- {
		var q []api.Ranked
		for m := in.number(); m > 0 && !in.bad; m-- {
			q = append(q, at(in.number(), in.word(), in.word(), in.number()))
		}
		st.Queues = append(st.Queues, q)
	}
	if in.bad || in.s != "" {
		return api.Config{}, api.State{}, api.ErrForm
	}
	c, _, err := conf.Read(text)
	if err != api.OK || textOf(c) != text {
		return api.Config{}, api.State{}, api.ErrForm
	}
	if _, err := shaper.Load(c, st); err != api.OK {
		return api.Config{}, api.State{}, err
	}
	return c, st, api.OK
}

// checkTake checks what Take and Resume return.
func checkTake(t *testing.T, s string, want api.Config, wantState api.State, err api.Errno) {
	t.Helper()
	checkTakeAlone(t, s, want, wantState, err)
	c, r, e := Resume(s)
	if !sameConfig(c, want) || e != err || (r == nil) != (err != api.OK) || r != nil && !same(r.State(), wantState) {
		t.Fatalf("Resume(%q) is %v, %v, %d, not %v, %v, %d", s, c, r, e, want, wantState, err)
	}
}

// checkTakeAlone checks what Take returns.
func checkTakeAlone(t *testing.T, s string, want api.Config, wantState api.State, err api.Errno) {
	t.Helper()
	c, st, e := Take(s)
	if !sameConfig(c, want) || !same(st, wantState) || e != err {
		t.Fatalf("Take(%q) is %v, %v, %d, not %v, %v, %d", s, c, st, e, want, wantState, err)
	}
}

// checkRefuses checks that there is nothing but an error.
func checkRefuses(t *testing.T, s string, err api.Errno) {
	t.Helper()
	checkTake(t, s, api.Config{}, api.State{}, err)
}

// checkModel checks Take against the model, and that Put inverts it.
func checkModel(t *testing.T, s string) api.Errno {
	t.Helper()
	c, st, err := decoded(s)
	checkTakeAlone(t, s, c, st, err)
	if err == api.OK {
		checkPut(t, c, st, s, api.OK)
	}
	return err
}

func checkPut(t *testing.T, c api.Config, st api.State, want string, err api.Errno) {
	t.Helper()
	if s, e := Put(c, st); s != want || e != err {
		t.Fatalf("Put(%v, %v) is %q, %d, not %q, %d", c, st, s, e, want, err)
	}
}

// checkSave checks Save, which returns nothing else with an error.
func checkSave(t *testing.T, c api.Config, s *shaper.Shaper, want string, err api.Errno) {
	t.Helper()
	if got, e := Save(c, s); got != want || e != err {
		t.Fatalf("Save(%v, ..) is %q, %d, not %q, %d", c, got, e, want, err)
	}
}

// both checks that Put and Take are inverse to each other for what Load allows.
func both(t *testing.T, c api.Config, st api.State) string {
	t.Helper()
	s := encoded(textOf(c), st)
	checkPut(t, c, st, s, api.OK)
	checkTake(t, s, c, st, api.OK)
	return s
}
