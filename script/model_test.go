package script

import (
	"math"
	"math/big"
	"regexp"
	"slices"
	"strconv"
	"strings"
	"testing"

	"pacemaker/api"
)

const (
	most = api.MaxU64
	last = math.MaxUint32 // the greatest Flow and ID
)

func enqueue(flow, id uint32, n uint64) api.Op {
	return api.Op{Kind: api.OpEnqueue, Flow: flow, ID: id, Len: n}
}

func ticks(n uint64) api.Op { return api.Op{Kind: api.OpTick, Ticks: n} }

func junkOf(n uint64) api.Op { return api.Op{Kind: api.OpJunk, Len: n} }

var (
	dequeue = api.Op{Kind: api.OpDequeue}
	tell    = api.Op{Kind: api.OpStats}
)

// random returns a function whose result is less than n.
func random(seed uint64) func(n uint64) uint64 {
	return func(n uint64) uint64 {
		seed = seed*6364136223846793005 + 1442695040888963407
		return seed >> 33 % n
	}
}

// anyNumber returns a number of any size.
func anyNumber(next func(n uint64) uint64) uint64 {
	n := next(1<<31)<<33 ^ next(1<<31)<<16 ^ next(1<<31)
	return n >> next(64)
}

// one returns one of some values.
func one[T any](next func(n uint64) uint64, l ...T) T {
	return l[next(uint64(len(l)))]
}

// anyOp returns an operation that is right.
func anyOp(next func(n uint64) uint64) api.Op {
	switch next(5) {
	case 0:
		return enqueue(uint32(anyNumber(next)), uint32(anyNumber(next)), anyNumber(next))
	case 1:
		return dequeue
	case 2:
		return ticks(anyNumber(next))
	case 3:
		return tell
	}
	return junkOf(one(next, 0, 5+next(251)))
}

// anyOps returns n such operations.
func anyOps(seed uint64, n int) []api.Op {
	next := random(seed)
	var l []api.Op
	for range n {
		l = append(l, anyOp(next))
	}
	return l
}

// sizes are some of all sizes, and those next to where something ends.
func sizes() []uint64 {
	l := []uint64{0, 1, 2, 9, 10, 99, 100, 255, 256, 999, 1000, 1001, 1000000, 1000000000, most - 1, most}
	for bits := 8; bits < 64; bits += 8 {
		l = append(l, 1<<bits-1, 1<<bits, 1<<bits+1)
	}
	return l
}

// some are operations that are right, with many values of each field.
func some() []api.Op {
	l := []api.Op{enqueue(1, 2, 3000), dequeue, ticks(7), tell, junkOf(255)}
	for _, n := range sizes() {
		l = append(l, ticks(n), enqueue(1, 2, n))
		if n <= last {
			l = append(l, enqueue(uint32(n), 2, 3), enqueue(1, uint32(n), 3), enqueue(uint32(n), last-uint32(n), n))
		}
	}
	for n := range uint64(256) {
		if n < 1 || n > 4 {
			l = append(l, junkOf(n))
		}
	}
	return l
}

// wrong are operations that are not right.
func wrong() []api.Op {
	l := []api.Op{
		{Kind: api.OpTorn}, {Kind: api.OpTorn, Len: 1},
		{Kind: api.OpEnqueue, Flow: 1, ID: 2, Len: 3, Ticks: 1},
		{Kind: api.OpDequeue, Flow: 1}, {Kind: api.OpDequeue, ID: 1}, {Kind: api.OpDequeue, Len: 1}, {Kind: api.OpDequeue, Ticks: 1},
		{Kind: api.OpTick, Flow: 1, Ticks: 2}, {Kind: api.OpTick, ID: 1, Ticks: 2}, {Kind: api.OpTick, Len: 1, Ticks: 2},
		{Kind: api.OpStats, Flow: 1}, {Kind: api.OpStats, ID: 1}, {Kind: api.OpStats, Len: 1}, {Kind: api.OpStats, Ticks: 1},
		{Kind: api.OpJunk, Flow: 1, Len: 9}, {Kind: api.OpJunk, ID: 1, Len: 9}, {Kind: api.OpJunk, Len: 9, Ticks: 1},
	}
	for _, n := range []uint64{1, 2, 3, 4, 256, 257, 260, 261, 512, 1 << 16, 1 << 32, 1<<32 + 9, most} {
		l = append(l, junkOf(n))
	}
	for _, kind := range []int{math.MinInt, -256, -2, -1, 6, 7, 255, 256, 257, 1 << 32, 1<<32 + 2, math.MaxInt} {
		l = append(l, api.Op{Kind: kind}, api.Op{Kind: kind, Len: 9}, api.Op{Kind: kind, Flow: 1, ID: 2, Len: 3})
	}
	return l
}

// lineOf is the line of an operation that is right.
func lineOf(x api.Op) string {
	var n []uint64
	switch x.Kind {
	case api.OpEnqueue:
		n = []uint64{uint64(x.Flow), uint64(x.ID), x.Len}
	case api.OpTick:
		n = []uint64{x.Ticks}
	case api.OpJunk:
		n = []uint64{x.Len}
	}
	line := []string{"junk", "in", "out", "tick", "stats"}[x.Kind]
	for _, n := range n {
		line += " " + strconv.FormatUint(n, 10)
	}
	return line
}

// linesOf are the lines of operations that are right.
func linesOf(l ...api.Op) string {
	var b strings.Builder
	for _, x := range l {
		b.WriteString(lineOf(x) + "\n")
	}
	return b.String()
}

var decimal = regexp.MustCompile(`^(0|[1-9][0-9]*)([KMG]?)$`)

// number is what the word of a number means, which is at most limit.
func number(word string, limit uint64) (uint64, api.Errno) {
	parts := decimal.FindStringSubmatch(word)
	if parts == nil {
		return 0, api.ErrForm
	}
	n, _ := new(big.Int).SetString(parts[1], 10)
	// No unit is at 0.
	for range strings.Index(" KMG", parts[2]) {
		n.Mul(n, big.NewInt(1000))
	}
	if n.Cmp(new(big.Int).SetUint64(limit)) > 0 {
		return 0, api.ErrOver
	}
	return n.Uint64(), api.OK
}

// model does what Read should.
func model(s string) ([]api.Op, int, api.Errno) {
	var l []api.Op
	for i, line := range strings.Split(s, "\n") {
		words := strings.FieldsFunc(line, func(r rune) bool { return r == ' ' || r == '\t' })
		if len(words) == 0 || words[0][0] == '#' {
			continue
		}
		x, err := modelLine(words)
		if err != api.OK {
			return nil, i + 1, err
		}
		l = append(l, x)
	}
	return l, 0, api.OK
}

// modelLine does it for the words of one line.
func modelLine(words []string) (api.Op, api.Errno) {
	kind := slices.Index([]string{"junk", "in", "out", "tick", "stats"}, words[0])
	if kind < 0 || len(words) != []int{2, 4, 1, 2, 1}[kind] {
		return api.Op{}, api.ErrLine
	}
	var n [3]uint64
	for i, word := range words[1:] {
		limit := uint64(most)
		if kind == api.OpEnqueue && i < 2 {
			limit = last
		}
		var err api.Errno
		if n[i], err = number(word, limit); err != api.OK {
			return api.Op{}, err
		}
	}
	switch kind {
	case api.OpJunk:
		if n[0] > 255 || n[0] >= 1 && n[0] <= 4 {
			return api.Op{}, api.ErrArg
		}
		return junkOf(n[0]), api.OK
	case api.OpEnqueue:
		return enqueue(uint32(n[0]), uint32(n[1]), n[2]), api.OK
	case api.OpTick:
		return ticks(n[0]), api.OK
	}
	return api.Op{Kind: kind}, api.OK
}

func checkPut(t *testing.T, want string, err api.Errno, l ...api.Op) {
	t.Helper()
	if s, e := Put(l...); s != want || e != err {
		t.Fatalf("Put(%v) is %q, %d, not %q, %d", l, s, e, want, err)
	}
}

// checkGives checks what Read returns for lines in which nothing is wrong.
func checkGives(t *testing.T, s string, want ...api.Op) {
	t.Helper()
	if l, n, e := Read(s); !slices.Equal(l, want) || n != 0 || e != api.OK {
		t.Fatalf("Read(%.300q) is %v, %d, %d, not %v", s, l, n, e, want)
	}
}

// checkRefuses checks what is wrong, besides which Read returns nothing.
func checkRefuses(t *testing.T, s string, line int, err api.Errno) {
	t.Helper()
	if l, n, e := Read(s); len(l) != 0 || n != line || e != err {
		t.Fatalf("Read(%.300q) is %v, %d, %d, not %d, %d", s, l, n, e, line, err)
	}
}

// checkModel checks Read against the model.
func checkModel(t *testing.T, s string) api.Errno {
	t.Helper()
	want, line, err := model(s)
	if l, n, e := Read(s); !slices.Equal(l, want) || n != line || e != err {
		t.Fatalf("Read(%.300q) is %v, %d, %d, not %v, %d, %d", s, l, n, e, want, line, err)
	}
	return err
}
