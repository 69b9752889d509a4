package shaper

import (
	"cmp"
	"slices"

	"pacemaker/api"
	"pacemaker/calq"
	"pacemaker/heappifo"
	"pacemaker/sppifo"
)

// backend is where packets wait by their ranks.
type backend interface {
	Push(rank uint64, p api.Packet) bool
	Peek() (uint64, api.Packet, bool)
	Pop() (uint64, api.Packet, bool)

	// lay lets all packets of some lists wait in an empty backend; false if
	// these can't be the bounds and the lists of one.
	lay(bounds []uint64, lists [][]api.Ranked) bool
}

// heap is a backend in which packets wait in order.
type heap struct {
	*heappifo.Heap[api.Packet]
}

// calendar is a backend that does the same by other means.
type calendar struct {
	*calq.Calendar[api.Packet]
}

// queues is a backend in which packets wait nearly in order.
type queues struct {
	*sppifo.Queues[api.Packet]
}

// newBackend returns the backend of a configuration that is allowed, of which
// none is refused.
func newBackend(c api.Config) backend {
	switch c.Back {
	case api.BackCalendar:
		b, _ := calq.New[api.Packet](c.Packets, c.Levels)
		return calendar{b}
	case api.BackQueues:
		b, _ := sppifo.New[api.Packet](c.Packets, c.Queues)
		return queues{b}
	default:
		b, _ := heappifo.New[api.Packet](c.Packets)
		return heap{b}
	}
}

// waiting returns the bounds of a backend and the lists of what waits in it.
func waiting(b backend) ([]uint64, [][]api.Ranked) {
	switch b := b.(type) {
	case heap:
		return nil, [][]api.Ranked{ranked(b.All())}
	case calendar:
		return nil, [][]api.Ranked{ranked(b.All())}
	case queues:
		bounds := b.Bounds()
		lists := make([][]api.Ranked, len(bounds))
		for i := range lists {
			lists[i] = ranked(b.Queue(i))
		}
		return bounds, lists
	}
	return nil, nil
}

// ranked returns the packets of some items with their ranks.
func ranked(items []heappifo.Item[api.Packet]) []api.Ranked {
	l := make([]api.Ranked, len(items))
	for i, x := range items {
		l[i] = api.Ranked{Rank: x.Rank, Packet: x.X}
	}
	return l
}

// Push hides in which queue the packet waits, which other backends don't have.
func (q queues) Push(rank uint64, p api.Packet) bool {
	_, ok := q.Queues.Push(rank, p)
	return ok
}

func (h heap) lay(bounds []uint64, lists [][]api.Ranked) bool {
	return layInOrder(h, bounds, lists)
}

func (c calendar) lay(bounds []uint64, lists [][]api.Ranked) bool {
	return layInOrder(c, bounds, lists)
}

func (q queues) lay(bounds []uint64, lists [][]api.Ranked) bool {
	all := make([][]heappifo.Item[api.Packet], len(lists))
	for i, l := range lists {
		for _, x := range l {
			all[i] = append(all[i], heappifo.Item[api.Packet]{Rank: x.Rank, X: x.Packet})
		}
	}
	return q.Lay(bounds, all) == api.OK
}

// layInOrder does lay for a backend in which packets wait in order, in one list
// without bounds.
func layInOrder(b backend, bounds []uint64, lists [][]api.Ranked) bool {
	if len(bounds) > 0 || len(lists) != 1 {
		return false
	}
	byRank := func(x, y api.Ranked) int { return cmp.Compare(x.Rank, y.Rank) }
	if !slices.IsSortedFunc(lists[0], byRank) {
		return false
	}
	for _, x := range lists[0] {
		if !b.Push(x.Rank, x.Packet) {
			return false
		}
	}
	return true
}
