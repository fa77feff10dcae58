package heap_test

import (
	"maps"
	"slices"

	"tumulus/api"
	"tumulus/head"
	"tumulus/heap"
	"tumulus/region"
)

// node is an object of a graph.
type node struct {
	head head.Head
	// numbers are its fields that are numbers, names what the others name: both by the field.
	numbers []uint64
	names   []*node
	// made is the section in which it was made: in that its words are fresh.
	made int
}

// newNode is one of noughts.
func newNode(h head.Head, made int) *node {
	return &node{head: h, numbers: make([]uint64, h.Words), names: make([]*node, h.Refs), made: made}
}

// word is one that a section stores: a field of a node, a root (of none), or how many words are used.
type word struct {
	of *node
	i  int
}

// usedWord is how many words are used.
var usedWord = word{nil, -1}

// graph is a heap by the document's words: objects as nodes, names as arrows.
type graph struct {
	c       region.Config
	roots   []*node
	handles map[int]*node
	// last is the last handle that was given.
	last int
	used int
	// Of the section: is one open, the how manieth is it, which words that aren't fresh did it store, and how are all taken back?
	open     bool
	sections int
	log      map[word]bool
	undo     []func()
	// Of the collection by steps: how many are left (0: there is none), how many words were reached when it began.
	steps int
	size  int
	// kept is what a cut leaves.
	kept end
}

// end is what may be left of a heap: its graph from the roots, how many words are used.
type end struct {
	told [][]uint64
	used int
}

// same: are two ends the same?
func (x end) same(y end) bool {
	return x.used == y.used && slices.EqualFunc(x.told, y.told, slices.Equal)
}

// loaded is the graph of an end, without handles.
func loaded(c region.Config, x end) *graph {
	g := &graph{c: c, roots: make([]*node, c.Roots), handles: map[int]*node{}, used: x.used, kept: x, log: map[word]bool{}}
	if x.told == nil {
		g.kept.told = g.told()
		return g
	}
	nodes := []*node{nil}
	for _, l := range x.told[1:] {
		h, _ := head.Unpack(l[0])
		nodes = append(nodes, newNode(h, 0))
	}
	for i, w := range x.told[0] {
		g.roots[i] = nodes[w]
	}
	for k, l := range x.told[1:] {
		n := nodes[k+1]
		copy(n.numbers, l[1:])
		for i := range n.names {
			n.names[i], n.numbers[i] = nodes[l[1+i]], 0
		}
	}
	return g
}

// reached are the nodes that some name, and those that these name, as a collection finds them.
func reached(named []*node) []*node {
	var l []*node
	seen := map[*node]bool{nil: true}
	tell := func(list []*node) {
		for _, n := range list {
			if !seen[n] {
				seen[n] = true
				l = append(l, n)
			}
		}
	}
	tell(named)
	for i := 0; i < len(l); i++ {
		tell(l[i].names)
	}
	return l
}

// size: how many words some nodes have.
func size(l []*node) int {
	sum := 0
	for _, n := range l {
		sum += n.head.Words + 1
	}
	return sum
}

// numbers are the handles, rising.
func (g *graph) numbers() []int { return slices.Sorted(maps.Keys(g.handles)) }

// reached are the nodes that roots and handles reach.
func (g *graph) reached() []*node {
	named := slices.Clone(g.roots)
	for _, n := range g.numbers() {
		named = append(named, g.handles[n])
	}
	return reached(named)
}

// told is the graph from the roots: of each root, then of each node's fields, the number of the node that it names, in the order in which they are found, from 1 on; numbers as they are.
func (g *graph) told() [][]uint64 {
	order := map[*node]uint64{nil: 0}
	all := reached(g.roots)
	for i, n := range all {
		order[n] = uint64(i + 1)
	}
	l := [][]uint64{nil}
	for _, n := range g.roots {
		l[0] = append(l[0], order[n])
	}
	for _, n := range all {
		fields := []uint64{n.head.Pack()}
		for i := range n.head.Words {
			if i < n.head.Refs {
				fields = append(fields, order[n.names[i]])
			} else {
				fields = append(fields, n.numbers[i])
			}
		}
		l = append(l, fields)
	}
	return l
}

// Stats are what a heap's would be.
func (g *graph) Stats() heap.Stats {
	return heap.Stats{Used: g.used, Reached: size(g.reached()), Handles: len(g.handles), Records: len(g.log), Open: g.open}
}

// put sets something, in a section.
func put[T any](g *graph, at *T, v T) {
	was := *at
	g.undo = append(g.undo, func() { *at = was })
	*at = v
}

// stores: has the log room for a word?
func (g *graph) stores(w word) api.Errno {
	if w.of != nil && w.of.made == g.sections || g.log[w] {
		return api.OK
	}
	if len(g.log) == g.c.Log {
		return api.ErrFull
	}
	g.log[w] = true
	return api.OK
}

func (g *graph) Begin(room int) api.Errno {
	if g.open {
		return api.ErrState
	}
	if room < 0 {
		return api.ErrRange
	}
	g.steps = 0
	if g.c.Space-g.used < room {
		g.Collect()
	}
	if g.c.Space-g.used < room {
		return api.ErrSpace
	}
	g.open, g.undo = true, nil
	g.sections++
	return api.OK
}

func (g *graph) Commit() api.Errno {
	if !g.open {
		return api.ErrState
	}
	g.open, g.kept = false, end{g.told(), g.used}
	clear(g.log)
	return api.OK
}

func (g *graph) Abort() api.Errno {
	if !g.open {
		return api.ErrState
	}
	for _, back := range slices.Backward(g.undo) {
		back()
	}
	maps.DeleteFunc(g.handles, func(_ int, n *node) bool { return n.made == g.sections })
	g.open = false
	clear(g.log)
	return api.OK
}

// take: a node's handle.
func (g *graph) take(n *node) int {
	if n == nil {
		return 0
	}
	for h, m := range g.handles {
		if m == n {
			return h
		}
	}
	g.last++
	g.handles[g.last] = n
	return g.last
}

// node: a handle's.
func (g *graph) node(n int) (*node, api.Errno) {
	if x, ok := g.handles[n]; ok {
		return x, api.OK
	}
	return nil, api.ErrNone
}

func (g *graph) Alloc(h head.Head) (int, api.Errno) {
	if !g.open {
		return 0, api.ErrState
	}
	if h.Words < 0 || h.Words > 64 || h.Refs < 0 || h.Refs > h.Words {
		return 0, api.ErrKind
	}
	if g.used+h.Words+1 > g.c.Space {
		return 0, api.ErrSpace
	}
	if e := g.stores(usedWord); e != api.OK {
		return 0, e
	}
	put(g, &g.used, g.used+h.Words+1)
	return g.take(newNode(h, g.sections)), api.OK
}

func (g *graph) Head(n int) (head.Head, api.Errno) {
	x, e := g.node(n)
	if e != api.OK {
		return head.Head{}, e
	}
	return x.head, api.OK
}

// field: a handle's node, if that has such a field, a name or a number.
func (g *graph) field(n, i int, name bool) (*node, api.Errno) {
	x, e := g.node(n)
	if e != api.OK {
		return nil, e
	}
	if i < 0 || i >= x.head.Words {
		return nil, api.ErrRange
	}
	if name != (i < x.head.Refs) {
		return nil, api.ErrKind
	}
	return x, api.OK
}

func (g *graph) Read(n, i int) (uint64, api.Errno) {
	x, e := g.field(n, i, false)
	if e != api.OK {
		return 0, e
	}
	return x.numbers[i], api.OK
}

func (g *graph) Ref(n, i int) (int, api.Errno) {
	x, e := g.field(n, i, true)
	if e != api.OK {
		return 0, e
	}
	return g.take(x.names[i]), api.OK
}

func (g *graph) Write(n, i int, v uint64) api.Errno {
	if !g.open {
		return api.ErrState
	}
	x, e := g.field(n, i, false)
	if e != api.OK {
		return e
	}
	if e := g.stores(word{x, i}); e != api.OK {
		return e
	}
	put(g, &x.numbers[i], v)
	return api.OK
}

func (g *graph) Point(n, i, to int) api.Errno {
	if !g.open {
		return api.ErrState
	}
	if _, e := g.node(n); e != api.OK {
		return e
	}
	y, e := g.node(to)
	if e != api.OK && to != 0 {
		return e
	}
	x, e := g.field(n, i, true)
	if e != api.OK {
		return e
	}
	if e := g.stores(word{x, i}); e != api.OK {
		return e
	}
	put(g, &x.names[i], y)
	return api.OK
}

func (g *graph) Root(i int) (int, api.Errno) {
	if i < 0 || i >= g.c.Roots {
		return 0, api.ErrRange
	}
	return g.take(g.roots[i]), api.OK
}

func (g *graph) SetRoot(i, to int) api.Errno {
	if !g.open {
		return api.ErrState
	}
	if i < 0 || i >= g.c.Roots {
		return api.ErrRange
	}
	y, e := g.node(to)
	if e != api.OK && to != 0 {
		return e
	}
	if e := g.stores(word{nil, i}); e != api.OK {
		return e
	}
	put(g, &g.roots[i], y)
	return api.OK
}

func (g *graph) Drop(n int) api.Errno {
	_, e := g.node(n)
	delete(g.handles, n)
	return e
}

func (g *graph) Step(n int) (bool, api.Errno) {
	if g.open {
		return false, api.ErrState
	}
	if g.steps == 0 {
		l := g.reached()
		g.steps, g.size = len(g.roots)+len(g.handles)+len(l)+1, size(l)
	}
	if n < g.steps {
		g.steps -= max(n, 0)
		return false, api.OK
	}
	g.collected(g.size)
	return true, api.OK
}

func (g *graph) Collect() api.Errno {
	if g.open {
		return api.ErrState
	}
	g.collected(size(g.reached()))
	return api.OK
}

// collected: so many words are used, and no collection is left.
func (g *graph) collected(size int) { g.steps, g.used, g.kept.used = 0, size, size }

func (g *graph) Check() api.Errno { return api.OK }
