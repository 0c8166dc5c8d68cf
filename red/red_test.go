package red_test

import (
	"bytes"
	"math"
	"slices"
	"strings"
	"testing"

	"rubric/api"
	"rubric/green"
	"rubric/red"
	"rubric/span"
)

// spot is where a node stands in a tree, as the chapter has it: told without a cursor.
type spot struct {
	node, from, to int
	path           []int
}

// spots are those of node n and all below, each ahead of its kids; what they print is counted from a byte on.
func spots(a *green.Arena, n, from int, path []int) []spot {
	l := []spot{{n, from, from + len(a.Print(n)), path}}
	for k, kid := range a.Kids(n) {
		l = append(l, spots(a, kid, from, append(path[:len(path):len(path)], k))...)
		from += len(a.Print(kid))
	}
	return l
}

// tree is an arena, a root, and all places of its tree.
type tree struct {
	t     *testing.T
	a     *green.Arena
	root  int
	spots []spot
}

// newTree is the tree of a root.
func newTree(t *testing.T, a *green.Arena, root int) tree {
	return tree{t, a, root, spots(a, root, 0, nil)}
}

// cursor is the root's.
func (x tree) cursor() red.Cursor {
	x.t.Helper()
	c, e := red.Root(x.a, x.root)
	if e != api.OK {
		x.t.Fatalf("Root of node %d is refused: %d", x.root, e)
	}
	return c
}

// spot is where a path leads; false, if nowhere.
func (x tree) spot(path []int) (spot, bool) {
	i := slices.IndexFunc(x.spots, func(s spot) bool { return slices.Equal(s.path, path) })
	if i < 0 {
		return spot{}, false
	}
	return x.spots[i], true
}

// within are the places of a place and all below it.
func (x tree) within(path []int) []spot {
	var l []spot
	for _, s := range x.spots {
		if len(s.path) >= len(path) && slices.Equal(s.path[:len(path)], path) {
			l = append(l, s)
		}
	}
	return l
}

// stands holds what a cursor tells against a place.
func (x tree) stands(c red.Cursor, s spot, how ...any) {
	x.t.Helper()
	if c.Node() != s.node || c.Span() != (span.Span{From: s.from, To: s.to}) || !slices.Equal(c.Path(), s.path) {
		x.t.Errorf("root %d, %v: node %d, %v, path %v, want %v", x.root, how, c.Node(), c.Span(), c.Path(), s)
	}
	if c.Kind() != x.a.Kind(s.node) || !bytes.Equal(c.Text(), x.a.Print(s.node)) {
		x.t.Errorf("root %d, %v: kind %d, text %q, want %d, %q", x.root, how, c.Kind(), c.Text(), x.a.Kind(s.node), x.a.Print(s.node))
	}
}

// moved holds what a move answers against where a path leads.
func (x tree) moved(c red.Cursor, ok bool, path []int, how ...any) {
	x.t.Helper()
	s, there := x.spot(path)
	switch {
	case ok != there:
		x.t.Errorf("root %d, %v: %v, want %v", x.root, how, ok, there)
	case ok:
		x.stands(c, s, how...)
	case c != red.Cursor{}:
		x.t.Errorf("root %d, %v: false, but not the zero cursor", x.root, how)
	}
}

// none leads nowhere in any tree.
var none = []int{-1}

// along is a path with more steps, in new memory.
func along(path []int, steps ...int) []int { return slices.Concat(path, steps) }

// beside is the path to the kid that is so many further on; the root has none beside it.
func beside(path []int, by int) []int {
	if len(path) == 0 {
		return none
	}
	last := len(path) - 1
	return along(path[:last], path[last]+by)
}

// above is the path to the parent.
func above(path []int) []int {
	if len(path) == 0 {
		return none
	}
	return path[:len(path)-1]
}

// moves holds all moves of one step of a cursor against the places.
func (x tree) moves(c red.Cursor, s spot) {
	x.t.Helper()
	kids := len(x.a.Kids(s.node))
	for _, k := range []int{math.MinInt, -kids - 1, -2, -1, 0, 1, 2, kids - 1, kids, kids + 1, math.MaxInt} {
		down, ok := c.Down(k)
		x.moved(down, ok, along(s.path, k), "Down of", s, k)
		if up, back := down.Up(); back != ok || ok && up != c {
			x.t.Errorf("root %d, %v: Up of Down(%d) is not where it was", x.root, s, k)
		}
	}
	up, ok := c.Up()
	x.moved(up, ok, above(s.path), "Up of", s)
	next, ok := c.Next()
	x.moved(next, ok, beside(s.path, 1), "Next of", s)
	prev, ok := c.Prev()
	x.moved(prev, ok, beside(s.path, -1), "Prev of", s)
}

// seeks holds Seek of a cursor, of all bytes of the root and some beside them, against the places.
func (x tree) seeks(c red.Cursor, s spot) {
	x.t.Helper()
	width := x.spots[0].to
	for at := -2; at <= width+2; at++ {
		x.seek(c, s, at)
	}
	for _, at := range []int{math.MinInt, math.MinInt32, math.MaxInt32, math.MaxInt} {
		x.seek(c, s, at)
	}
}

// seek holds Seek of one byte against the places: of those below that have it none is as deep.
func (x tree) seek(c red.Cursor, s spot, at int) {
	x.t.Helper()
	want := none
	for _, below := range x.within(s.path) {
		if at >= below.from && at < below.to && (len(want) <= len(below.path) || slices.Equal(want, none)) {
			want = below.path
		}
	}
	got, ok := c.Seek(at)
	x.moved(got, ok, want, "Seek of", s, at)
}

// walks holds Walk of a cursor, of few and of many, against the places.
func (x tree) walks(c red.Cursor, s spot) {
	x.t.Helper()
	want := x.within(s.path)
	for _, most := range []int{math.MinInt, -1, 0, 1, 2, len(want) - 1, len(want), len(want) + 1, math.MaxInt} {
		got := c.Walk(most)
		if len(got) != max(0, min(most, len(want))) {
			x.t.Errorf("root %d: Walk(%d) of %v has %d, there are %d", x.root, most, s, len(got), len(want))
			continue
		}
		for i, at := range got {
			x.stands(at, want[i], "Walk of", s, most, i)
		}
	}
}

// paths are all those of at most n steps of some numbers.
func paths(n int, steps []int, f func(path []int)) {
	f(nil)
	if n == 0 {
		return
	}
	for _, k := range steps {
		paths(n-1, steps, func(path []int) { f(along([]int{k}, path...)) })
	}
}

// tos holds To of a cursor, by all short paths, against the places.
func (x tree) tos(c red.Cursor, s spot) {
	x.t.Helper()
	paths(3, []int{-1, 0, 1, 2}, func(path []int) {
		to, ok := c.To(path...)
		x.moved(to, ok, along(s.path, path...), "To of", s, path)
	})
}

// agree holds each cursor of a tree, as each way leads to it, against its place.
func (x tree) agree() {
	x.t.Helper()
	root := x.cursor()
	walk := root.Walk(len(x.spots) + 1)
	if len(walk) != len(x.spots) {
		x.t.Fatalf("root %d: Walk has %d, there are %d", x.root, len(walk), len(x.spots))
	}
	for i, s := range x.spots {
		to, ok := root.To(s.path...)
		x.moved(to, ok, s.path, "To", s.path)
		ways := []red.Cursor{to, walk[i]}
		if next, ok := to.Next(); ok {
			prev, _ := next.Prev()
			ways = append(ways, prev)
		}
		if prev, ok := to.Prev(); ok {
			next, _ := prev.Next()
			ways = append(ways, next)
		}
		if s.to > s.from {
			seek, _ := root.Seek(s.from)
			for len(seek.Path()) > len(s.path) {
				seek, _ = seek.Up()
			}
			ways = append(ways, seek)
		}
		for _, c := range ways {
			x.stands(c, s)
			x.moves(c, s)
			x.seeks(c, s)
			x.walks(c, s)
			x.tos(c, s)
		}
	}
}

// branch adds a branch.
func branch(t *testing.T, a *green.Arena, kind int, kids ...int) int {
	t.Helper()
	n, e := a.Branch(kind, kids...)
	if e != api.OK {
		t.Fatalf("a branch of %v is refused: %d", kids, e)
	}
	return n
}

// garden is an arena of leaves and branches, among them such as have no bytes or no kids; and a root below which some stand in several places.
func garden(t *testing.T) (*green.Arena, int) {
	a := green.New()
	ab, none, c := a.Leaf(1, []byte("ab")), a.Leaf(2, nil), a.Leaf(math.MinInt, []byte("c\xFF"))
	empty := branch(t, a, 4)
	x := branch(t, a, 5, ab, c)
	y := branch(t, a, math.MaxInt, none, x, empty, none, x)
	return a, branch(t, a, 7, empty, y, none, ab, x, y, none)
}

// P11.1 to P11.4: each node of an arena as the root: leaves with bytes and of none, branches with kids and of none, nodes in several places.
func TestTrees(t *testing.T) {
	a, root := garden(t)
	for n := range root + 1 {
		newTree(t, a, n).agree()
	}
}

// P11.1 to P11.4: all branches of at most two kids, of which each is a leaf or a branch of at most two.
func TestAllSmallTrees(t *testing.T) {
	a := green.New()
	l := []int{a.Leaf(1, nil), a.Leaf(2, []byte("a")), a.Leaf(3, []byte("bc")), branch(t, a, 4)}
	for depth := range 2 {
		var more []int
		for _, x := range l {
			more = append(more, branch(t, a, 5+depth, x))
			for _, y := range l {
				more = append(more, branch(t, a, 7+depth, x, y))
			}
		}
		l = append(l, more...)
	}
	for _, n := range l {
		newTree(t, a, n).agree()
	}
}

// P11.1: Root of a nil arena, whatever the number.
func TestRootOfNoArena(t *testing.T) {
	for _, n := range []int{math.MinInt, -1, 0, 1, math.MaxInt} {
		if c, e := red.Root(nil, n); e != api.ErrNil || c != (red.Cursor{}) {
			t.Errorf("Root(nil, %d) is %v, %d", n, c, e)
		}
	}
}

// P11.1: Root of what is no node: below 0, and beyond the last.
func TestRootOfNoNode(t *testing.T) {
	full, root := garden(t)
	for _, a := range []*green.Arena{green.New(), new(green.Arena), full} {
		for _, n := range []int{math.MinInt, math.MinInt32, -root, -1, a.Len(), a.Len() + 1, math.MaxInt32, math.MaxInt} {
			if c, e := red.Root(a, n); e != api.ErrNone || c != (red.Cursor{}) {
				t.Errorf("Root(%d) of %d nodes is %v, %d", n, a.Len(), c, e)
			}
		}
	}
}

// The rules of the zero cursor: 0, the zero span, nothing, false.
func TestZeroCursor(t *testing.T) {
	var c red.Cursor
	if c.Node() != 0 || c.Span() != (span.Span{}) || len(c.Path()) != 0 || c.Kind() != 0 || len(c.Text()) != 0 {
		t.Errorf("node %d, %v, path %v, kind %d, text %q", c.Node(), c.Span(), c.Path(), c.Kind(), c.Text())
	}
	nowhere := func(call string, to red.Cursor, ok bool) {
		t.Helper()
		if ok || to != c {
			t.Errorf("%s leads somewhere", call)
		}
	}
	up, ok := c.Up()
	nowhere("Up", up, ok)
	next, ok := c.Next()
	nowhere("Next", next, ok)
	prev, ok := c.Prev()
	nowhere("Prev", prev, ok)
	for _, n := range []int{math.MinInt, -1, 0, 1, math.MaxInt} {
		down, ok := c.Down(n)
		nowhere("Down", down, ok)
		seek, ok := c.Seek(n)
		nowhere("Seek", seek, ok)
		if l := c.Walk(n); len(l) != 0 {
			t.Errorf("Walk(%d) has %d", n, len(l))
		}
	}
	for _, path := range [][]int{nil, {}, {0}, {-1}, {0, 0}, {math.MaxInt}} {
		to, ok := c.To(path...)
		nowhere("To", to, ok)
	}
}

// The chapter's example.
func TestExample(t *testing.T) {
	a := green.New()
	ab, c := a.Leaf(1, []byte("ab")), a.Leaf(2, []byte("c"))
	x := newTree(t, a, branch(t, a, 3, ab, c))
	second, ok := x.cursor().Down(1)
	if !ok || second.Span() != (span.Span{From: 2, To: 3}) {
		t.Errorf("Down(1) is at %v, %v", second.Span(), ok)
	}
	first, ok := x.cursor().Seek(1)
	if !ok || first.Node() != ab || !slices.Equal(first.Path(), []int{0}) {
		t.Errorf("Seek(1) is node %d, path %v, %v", first.Node(), first.Path(), ok)
	}
}

// P11.3: the byte is looked for in a cursor's own span: not ahead of it, and not from its To on.
func TestSeekFromWithin(t *testing.T) {
	a := green.New()
	ab, none, c := a.Leaf(1, []byte("ab")), a.Leaf(2, nil), a.Leaf(3, []byte("c"))
	inner := branch(t, a, 4, none, none, ab, none, c, none)
	root := branch(t, a, 5, ab, none, inner, none, ab)
	x := newTree(t, a, root)
	c2, ok := x.cursor().To(2)
	if !ok || c2.Span() != (span.Span{From: 2, To: 5}) {
		t.Fatalf("the inner branch is at %v, %v", c2.Span(), ok)
	}
	for at, want := range map[int][]int{-1: nil, 0: nil, 1: nil, 2: {2, 2}, 3: {2, 2}, 4: {2, 4}, 5: nil, 6: nil, 7: nil} {
		got, ok := c2.Seek(at)
		if ok != (want != nil) || !slices.Equal(got.Path(), want) {
			t.Errorf("Seek(%d) is at %v, %v, want %v", at, got.Path(), ok, want)
		}
	}
	for at, want := range map[int][]int{-1: nil, 0: {0}, 1: {0}, 2: {2, 2}, 4: {2, 4}, 5: {4}, 6: {4}, 7: nil} {
		got, ok := x.cursor().Seek(at)
		if ok != (want != nil) || !slices.Equal(got.Path(), want) {
			t.Errorf("from the root Seek(%d) is at %v, %v, want %v", at, got.Path(), ok, want)
		}
	}
}

// P11.4: nodes that come into the arena later change nothing for cursors that are there.
func TestNodesThatComeLater(t *testing.T) {
	a, root := garden(t)
	x := newTree(t, a, root)
	walk := x.cursor().Walk(math.MaxInt)
	for i := range 1000 {
		leaf := a.Leaf(i, []byte("later"))
		branch(t, a, i, leaf, root, leaf)
		if _, e := a.Replace(root, leaf, x.spots[i%len(x.spots)].path...); e != api.OK {
			t.Fatalf("Replace is refused: %d", e)
		}
	}
	for i, c := range walk {
		x.stands(c, x.spots[i])
		x.moves(c, x.spots[i])
		x.seeks(c, x.spots[i])
		x.walks(c, x.spots[i])
	}
	later := newTree(t, a, a.Len()-1)
	later.stands(later.cursor(), later.spots[0])
}

// The rules that hold everywhere, 4 and 5: paths that are handed in are not kept, what is answered is new.
func TestAnswersAreTheirOwn(t *testing.T) {
	a, root := garden(t)
	x := newTree(t, a, root)
	path := []int{1, 4, 0}
	c, ok := x.cursor().To(path...)
	if !ok || !slices.Equal(path, []int{1, 4, 0}) {
		t.Fatalf("To is %v; the path is %v now", ok, path)
	}
	path[0], path[1], path[2] = 9, 9, 9
	s, _ := x.spot([]int{1, 4, 0})
	for range 2 {
		x.stands(c, s)
		for i, b := range [][]byte{c.Text(), x.cursor().Text()} {
			b = b[:cap(b)]
			for j := range b {
				b[j] = byte(i)
			}
		}
		got := c.Path()
		got = got[:cap(got)]
		for i := range got {
			got[i] = -7
		}
		_ = append(c.Path(), 1)
		up, _ := c.Up()
		clear(up.Path())
		l := x.cursor().Walk(9)
		clear(l[:cap(l)])
	}
	x.agree()
}

// P11.2, P11.3: a wide tree, of kids with bytes and without: each kid by Down, by Next, by Prev and by Seek.
func TestWideTree(t *testing.T) {
	const many = 1 << 18
	a := green.New()
	one, none := a.Leaf(1, []byte("a")), a.Leaf(2, nil)
	root, e := red.Root(a, branch(t, a, 3, slices.Repeat([]int{none, one, none, one}, many/4)...))
	if e != api.OK || root.Span() != (span.Span{From: 0, To: many / 2}) {
		t.Fatalf("the root is at %v, %d", root.Span(), e)
	}
	walk := root.Walk(math.MaxInt)
	if len(walk) != many+1 {
		t.Fatalf("Walk has %d", len(walk))
	}
	next, _ := root.Down(0)
	prev, _ := root.Down(many - 1)
	for k := range many {
		down, ok := root.Down(k)
		for _, c := range []red.Cursor{down, next, walk[k+1]} {
			if !ok || c.Node() != (k+1)%2 || c.Span() != (span.Span{From: k / 2, To: (k + 1) / 2}) || !slices.Equal(c.Path(), []int{k}) {
				t.Fatalf("kid %d is node %d at %v, path %v", k, c.Node(), c.Span(), c.Path())
			}
		}
		if seek, ok := root.Seek(k / 2); !ok || !slices.Equal(seek.Path(), []int{k/2*2 + 1}) {
			t.Fatalf("Seek(%d) is at %v, %v", k/2, seek.Path(), ok)
		}
		if !slices.Equal(prev.Path(), []int{many - 1 - k}) {
			t.Fatalf("Prev leads to %v, want %d", prev.Path(), many-1-k)
		}
		var more, back bool
		next, more = next.Next()
		prev, back = prev.Prev()
		if more != (k < many-1) || back != more {
			t.Fatalf("of kid %d Next is %v, Prev of its like from the end %v", k, more, back)
		}
	}
}

// P11.1 to P11.4: a deep tree, down and up.
func TestDeepTree(t *testing.T) {
	const many = 1 << 16
	a := green.New()
	x, none := a.Leaf(1, []byte("x")), a.Leaf(2, nil)
	deep := a.Leaf(3, []byte("yz"))
	for range many {
		deep = branch(t, a, 4, none, x, deep, none)
	}
	root, _ := red.Root(a, deep)
	path := slices.Repeat([]int{2}, many)
	last, ok := root.To(path...)
	want := span.Span{From: many, To: many + 2}
	if !ok || last.Span() != want || last.Kind() != 3 || string(last.Text()) != "yz" || !slices.Equal(last.Path(), path) {
		t.Fatalf("the deepest is at %v, of kind %d, %v", last.Span(), last.Kind(), ok)
	}
	if c, ok := root.To(along(path, 0)...); ok || c != (red.Cursor{}) {
		t.Error("a path that is too long leads somewhere")
	}
	if c, ok := root.Seek(many + 1); !ok || c.Span() != want || !slices.Equal(c.Path(), path) {
		t.Errorf("Seek is at %v, %v", c.Span(), ok)
	}
	for i := many; i > 0; i-- {
		last, ok = last.Up()
		if at := (span.Span{From: i - 1, To: many + 2}); !ok || last.Span() != at {
			t.Fatalf("Up is at %v, %v, want %v", last.Span(), ok, at)
		}
	}
	if last != root {
		t.Error("what went up is not at the root")
	}
	walk := root.Walk(math.MaxInt)
	if len(walk) != 4*many+1 || walk[3*many].Span() != want {
		t.Errorf("Walk has %d", len(walk))
	}
	// Behind the deepest one come those behind its parents, from the inmost on.
	for i, c := range walk[3*many+1:] {
		if up, ok := c.Up(); !ok || c.Node() != none || up.Span().From != many-1-i {
			t.Fatalf("cursor %d behind the deepest one: node %d, at %v", i, c.Node(), c.Span())
		}
	}
}

// P11.3: what is asked of few bytes or few nodes ends soon, however many nodes are below.
func TestTreeOfManyNodes(t *testing.T) {
	a := green.New()
	x, crowd := a.Leaf(1, []byte("x")), a.Leaf(2, nil)
	for range 200 {
		crowd = branch(t, a, 3, crowd, crowd)
	}
	root, e := red.Root(a, branch(t, a, 4, crowd, x, crowd, x, crowd))
	if e != api.OK || root.Span() != (span.Span{From: 0, To: 2}) || string(root.Text()) != "xx" {
		t.Fatalf("the root is at %v, %d", root.Span(), e)
	}
	if c, ok := root.Seek(1); !ok || !slices.Equal(c.Path(), []int{3}) {
		t.Errorf("Seek(1) is at %v, %v", c.Path(), ok)
	}
	if c, ok := root.Seek(2); ok {
		t.Errorf("Seek(2) is at %v", c.Path())
	}
	l := root.Walk(1000)
	if len(l) != 1000 || len(l[201].Path()) != 201 || !slices.Equal(l[202].Path(), along(slices.Repeat([]int{0}, 200), 1)) {
		t.Errorf("Walk has %d, the last ones at %v, %v", len(l), l[201].Path(), l[202].Path())
	}
}

// P11.4: each cursor's text is what the root prints within its span.
func TestTextsAndSpans(t *testing.T) {
	a := green.New()
	var l []int
	for _, s := range strings.Split("a,,b\xFF,<c>,\x00,,dd", ",") {
		l = append(l, a.Leaf(len(s), []byte(s)))
	}
	for i := range 40 {
		l = append(l, branch(t, a, i, l[i], l[i*3%len(l)], l[len(l)-3]))
	}
	for _, n := range l[:30] {
		root, _ := red.Root(a, n)
		printed := a.Print(n)
		for _, c := range root.Walk(5000) {
			s := c.Span()
			if !bytes.Equal(c.Text(), printed[s.From:s.To]) {
				t.Fatalf("root %d: the text at %v is %q", n, c.Path(), c.Text())
			}
			if again, ok := root.To(c.Path()...); !ok || again.Span() != s || again.Node() != c.Node() {
				t.Fatalf("root %d: To(%v) leads to another one", n, c.Path())
			}
		}
	}
}
