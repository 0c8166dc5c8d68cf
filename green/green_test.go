package green_test

import (
	"bytes"
	"math"
	"slices"
	"strings"
	"testing"

	"rubric/api"
	"rubric/green"
)

// most is what no width may be above, and at which counts are cut off.
const most = 1<<31 - 1

// plan is a node as the chapter has it: with all that is below it, and without an arena.
type plan struct {
	kind  int
	leafy bool
	bytes string
	kids  []*plan
}

// print is what a node prints.
func (p *plan) print() string {
	s := p.bytes
	for _, kid := range p.kids {
		s += kid.print()
	}
	return s
}

// count is how many nodes a node has below, itself too.
func (p *plan) count() int {
	n := 1
	for _, kid := range p.kids {
		n += kid.count()
	}
	return n
}

// at is the node that a path leads to; nil, if there is none.
func (p *plan) at(path []int) *plan {
	for _, k := range path {
		if k < 0 || k >= len(p.kids) {
			return nil
		}
		p = p.kids[k]
	}
	return p
}

// with is a node as it is, but for what a path leads to.
func (p *plan) with(other *plan, path []int) *plan {
	if len(path) == 0 {
		return other
	}
	kids := slices.Clone(p.kids)
	kids[path[0]] = kids[path[0]].with(other, path[1:])
	return &plan{kind: p.kind, kids: kids}
}

// text tells a node, and all below.
func (p *plan) text() string {
	if p.leafy {
		return p.bytes
	}
	var kids []string
	for _, kid := range p.kids {
		kids = append(kids, kid.text())
	}
	return "(" + strings.Join(kids, " ") + ")"
}

// text tells node n of an arena likewise.
func text(a *green.Arena, n int) string {
	if a.Leafy(n) {
		return string(a.Bytes(n))
	}
	var kids []string
	for _, kid := range a.Kids(n) {
		kids = append(kids, text(a, kid))
	}
	return "(" + strings.Join(kids, " ") + ")"
}

// forest is an arena, and the plan of each of its nodes.
type forest struct {
	*green.Arena
	plans []*plan
}

func newForest() *forest { return &forest{Arena: green.New()} }

// leaf adds a leaf to both.
func (f *forest) leaf(t *testing.T, kind int, s string) int {
	t.Helper()
	n := f.Leaf(kind, []byte(s))
	if n != len(f.plans) {
		t.Fatalf("leaf %q is node %d, want %d", s, n, len(f.plans))
	}
	f.plans = append(f.plans, &plan{kind: kind, leafy: true, bytes: s})
	return n
}

// branch adds a branch to both.
func (f *forest) branch(t *testing.T, kind int, kids ...int) int {
	t.Helper()
	n, e := f.Branch(kind, kids...)
	if n != len(f.plans) || e != api.OK {
		t.Fatalf("branch of %v is %d, %d, want %d, OK", kids, n, e, len(f.plans))
	}
	p := &plan{kind: kind}
	for _, kid := range kids {
		p.kids = append(p.kids, f.plans[kid])
	}
	f.plans = append(f.plans, p)
	return n
}

// agree holds each node against its plan.
func (f *forest) agree(t *testing.T) {
	t.Helper()
	if f.Len() != len(f.plans) {
		t.Fatalf("Len is %d, want %d", f.Len(), len(f.plans))
	}
	for n, p := range f.plans {
		printed := p.print()
		if f.Kind(n) != p.kind || f.Leafy(n) != p.leafy || f.Count(n) != p.count() {
			t.Errorf("node %d: Kind %d, Leafy %v, Count %d, want %d, %v, %d", n, f.Kind(n), f.Leafy(n), f.Count(n), p.kind, p.leafy, p.count())
		}
		if f.Width(n) != len(printed) || string(f.Print(n)) != printed {
			t.Errorf("node %d prints %q, Width %d, want %q", n, f.Print(n), f.Width(n), printed)
		}
		if string(f.Bytes(n)) != p.bytes || len(f.Kids(n)) != len(p.kids) || text(f.Arena, n) != p.text() {
			t.Errorf("node %d is %q, with Bytes %q and Kids %v, want %q", n, text(f.Arena, n), f.Bytes(n), f.Kids(n), p.text())
		}
	}
}

// nothing holds what is told of a number of which there is no node.
func nothing(t *testing.T, a *green.Arena, n int) {
	t.Helper()
	if a.Kind(n) != 0 || a.Width(n) != 0 || a.Leafy(n) || a.Count(n) != 0 || len(a.Bytes(n)) != 0 || len(a.Kids(n)) != 0 || len(a.Print(n)) != 0 {
		t.Errorf("there is a node %d", n)
	}
	for _, path := range [][]int{nil, {}, {0}, {-1}, {0, 0}} {
		if at, ok := a.At(n, path...); at != 0 || ok {
			t.Errorf("At(%d, %v) = %d, %v", n, path, at, ok)
		}
	}
}

// numbers are those of which there is no node in an arena of so many.
func numbers(count int) []int {
	return []int{math.MinInt, math.MinInt32, -count, -2, -1, count, count + 1, math.MaxInt32, math.MaxInt}
}

// The rules of a nil arena: 0, ErrNil, nothing, false.
func TestNilArena(t *testing.T) {
	var a *green.Arena
	if n := a.Leaf(1, []byte("a")); n != 0 {
		t.Errorf("Leaf is %d", n)
	}
	for _, kids := range [][]int{nil, {}, {0}, {-1, 5}} {
		if n, e := a.Branch(1, kids...); n != 0 || e != api.ErrNil {
			t.Errorf("Branch of %v is %d, %d", kids, n, e)
		}
	}
	for _, path := range [][]int{nil, {0}, {-1}} {
		if n, e := a.Replace(0, 0, path...); n != 0 || e != api.ErrNil {
			t.Errorf("Replace along %v is %d, %d", path, n, e)
		}
	}
	if a.Len() != 0 {
		t.Errorf("Len is %d", a.Len())
	}
	for _, n := range append(numbers(0), 0) {
		nothing(t, a, n)
	}
}

// P10.1: a new arena has no node, and one made by hand has none, either.
func TestNewArena(t *testing.T) {
	for _, a := range []*green.Arena{green.New(), new(green.Arena)} {
		if a == nil {
			t.Fatal("New is nil")
		}
		if a.Len() != 0 {
			t.Errorf("Len is %d", a.Len())
		}
		for _, n := range append(numbers(0), 0) {
			nothing(t, a, n)
		}
		if n, e := a.Branch(1, 0); n != 0 || e != api.ErrNone {
			t.Errorf("Branch of no node is %d, %d", n, e)
		}
		if n, e := a.Replace(0, 0); n != 0 || e != api.ErrNone {
			t.Errorf("Replace of no node is %d, %d", n, e)
		}
		if a.Len() != 0 {
			t.Errorf("Len is %d after what is refused", a.Len())
		}
		if n := a.Leaf(7, []byte("a")); n != 0 || a.Len() != 1 {
			t.Errorf("the first node is %d of %d", n, a.Len())
		}
	}
	a, b := green.New(), green.New()
	a.Leaf(1, []byte("a"))
	if b.Len() != 0 {
		t.Error("two arenas have the same nodes")
	}
}

// The chapter's example.
func TestExample(t *testing.T) {
	a := green.New()
	if n := a.Leaf(1, []byte("ab")); n != 0 {
		t.Errorf("the leaf is %d", n)
	}
	if n, e := a.Branch(2, 0, 0); n != 1 || e != api.OK {
		t.Errorf("the branch is %d, %d", n, e)
	}
	if string(a.Print(1)) != "abab" || a.Width(1) != 4 {
		t.Errorf("it prints %q, Width %d", a.Print(1), a.Width(1))
	}
	c := a.Leaf(1, []byte("c"))
	n, e := a.Replace(1, c, 1)
	if n != 3 || e != api.OK || string(a.Print(n)) != "abc" {
		t.Errorf("Replace is %d, %d, and prints %q", n, e, a.Print(n))
	}
}

// P10.1, P10.2, P10.4: leaves and branches of all kinds, and all that is told of them.
func TestNodes(t *testing.T) {
	f := newForest()
	a := f.leaf(t, 1, "ab")
	none := f.leaf(t, 2, "")
	b := f.leaf(t, -3, "\x00\xFF<")
	empty := f.branch(t, 4)
	one := f.branch(t, 5, a)
	f.branch(t, 6, a, a, a)
	all := f.branch(t, math.MinInt, a, none, b, empty, one)
	f.branch(t, math.MaxInt, all, one, all, none)
	f.branch(t, 0, empty, none, empty)
	f.leaf(t, 0, "c")
	f.leaf(t, math.MaxInt, strings.Repeat("d", 1000))
	f.agree(t)
	for _, n := range numbers(f.Len()) {
		nothing(t, f.Arena, n)
	}
	if got := f.Kids(all); !slices.Equal(got, []int{a, none, b, empty, one}) {
		t.Errorf("Kids are %v", got)
	}
	if len(f.Kids(a)) != 0 || len(f.Bytes(one)) != 0 || len(f.Kids(empty)) != 0 || len(f.Bytes(none)) != 0 {
		t.Error("a leaf has kids, or a branch bytes")
	}
	if !f.Leafy(none) || f.Leafy(empty) {
		t.Error("a leaf of no bytes is not told from a branch of no kids")
	}
	if n := f.Leaf(1, nil); n != f.Len()-1 || !f.Leafy(n) || f.Count(n) != 1 {
		t.Error("a leaf of nil is none")
	}
}

// P10.1: a branch of what is no node is refused, and nothing is added.
func TestBranchesOfNoNodes(t *testing.T) {
	f := newForest()
	a := f.leaf(t, 1, "a")
	b := f.branch(t, 2, a)
	for _, n := range numbers(2) {
		for _, kids := range [][]int{{n}, {a, n}, {n, b}, {a, b, n, a}} {
			if got, e := f.Branch(3, kids...); got != 0 || e != api.ErrNone {
				t.Errorf("Branch of %v is %d, %d", kids, got, e)
			}
		}
		if f.Len() != 2 {
			t.Fatalf("Len is %d after what is refused", f.Len())
		}
	}
	f.branch(t, 3, a, b)
	f.agree(t)
}

// powers adds branches of two times the one ahead; the one of number i has 2 to the i times node n.
func powers(t *testing.T, f *forest, n, count int) []int {
	t.Helper()
	l := []int{n}
	for range count {
		next, e := f.Branch(1, l[len(l)-1], l[len(l)-1])
		if e != api.OK {
			t.Fatalf("branch %d is refused: %d", len(l), e)
		}
		l = append(l, next)
	}
	return l
}

// P10.1: widths together may be 2^31 - 1, and not above; what would be is refused, and nothing is added.
func TestWidest(t *testing.T) {
	f := newForest()
	one := f.Leaf(1, []byte("a"))
	none := f.Leaf(1, nil)
	p := powers(t, f, one, 30)
	if f.Width(p[30]) != 1<<30 {
		t.Fatalf("Width is %d", f.Width(p[30]))
	}
	count := f.Len()
	for _, kids := range [][]int{{p[30], p[30]}, {p[30], p[30], p[30]}, {p[30], p[30], p[30], p[30], p[30]}, slices.Repeat([]int{p[30]}, 100)} {
		if n, e := f.Branch(2, kids...); n != 0 || e != api.ErrLong {
			t.Errorf("a branch that is too wide is %d, %d", n, e)
		}
		if n, e := f.Branch(2, append(kids, -1)...); n != 0 || e != api.ErrNone {
			t.Errorf("a branch that is too wide, of what is no node, is %d, %d", n, e)
		}
		if f.Len() != count {
			t.Fatalf("Len is %d after what is refused, want %d", f.Len(), count)
		}
	}
	// 2^30 and 2^29 and so on down to 1.
	widest, e := f.Branch(3, p...)
	if e != api.OK || widest != count || f.Width(widest) != most {
		t.Fatalf("the widest is %d, %d, Width %d", widest, e, f.Width(widest))
	}
	if n, e := f.Branch(4, widest, none, none); e != api.OK || f.Width(n) != most {
		t.Errorf("the widest and what has no width is %d, %d, Width %d", n, e, f.Width(n))
	}
	if n, e := f.Branch(4, widest); e != api.OK || f.Width(n) != most {
		t.Errorf("the widest alone is %d, %d, Width %d", n, e, f.Width(n))
	}
	count = f.Len()
	for _, kids := range [][]int{{widest, one}, {one, widest}, {widest, widest}, {none, widest, none, one}} {
		if n, e := f.Branch(5, kids...); n != 0 || e != api.ErrLong || f.Len() != count {
			t.Errorf("wider than the widest: %d, %d", n, e)
		}
	}
}

// P10.2: counts are cut off at 2^31 - 1.
func TestCounts(t *testing.T) {
	f := newForest()
	none := f.Leaf(1, nil)
	p := powers(t, f, none, 29)
	// A branch of two trees of n nodes has 2 n + 1: one less than a power of two, again.
	for i, n := range p {
		if want := 2<<i - 1; f.Count(n) != want {
			t.Fatalf("Count of branch %d is %d, want %d", i, f.Count(n), want)
		}
	}
	count := func(kids ...int) int {
		t.Helper()
		n, e := f.Branch(2, kids...)
		if e != api.OK {
			t.Fatalf("Branch of %v: %d", kids, e)
		}
		return f.Count(n)
	}
	big := p[29] // 2^30 - 1
	if got := count(big, big); got != most {
		t.Errorf("1 and two times 2^30 - 1 is %d", got)
	}
	if got := count(big, big, none); got != most {
		t.Errorf("one more is %d", got)
	}
	if got := count(big, p[28], p[27]); got != 1+(1<<30-1)+(1<<29-1)+(1<<28-1) {
		t.Errorf("somewhat less is %d", got)
	}
	two, _ := f.Branch(2, none)
	if got := count(append([]int{big, two}, p[:29]...)...); got != most-28 {
		t.Errorf("close to the most is %d", got)
	}
	last, _ := f.Branch(2, big, big)
	for range 100 {
		if got := count(last, last, last); got != most {
			t.Fatalf("three times the most is %d", got)
		}
		last, _ = f.Branch(2, last, last, none)
		if f.Count(last) != most || f.Width(last) != 0 || len(f.Print(last)) != 0 {
			t.Fatalf("Count is %d, Width %d", f.Count(last), f.Width(last))
		}
	}
}

// P10.2: what prints little ends soon, however many nodes are below.
func TestPrintOfManyNodes(t *testing.T) {
	f := newForest()
	last := f.Leaf(1, nil)
	a := f.Leaf(1, []byte("a"))
	for range 200 {
		last, _ = f.Branch(2, last, last, last)
	}
	b, _ := f.Branch(2, last, a, last, a, last)
	if got := string(f.Print(b)); got != "aa" || f.Width(b) != 2 {
		t.Errorf("it prints %q", got)
	}
}

// P10.2: deep trees and wide ones print all of their bytes in order.
func TestPrintOfLongTrees(t *testing.T) {
	const many = 1 << 16
	f := newForest()
	var leaves []int
	for _, s := range []string{"a", "", "bc", "d"} {
		leaves = append(leaves, f.Leaf(1, []byte(s)))
	}
	wide, e := f.Branch(2, slices.Repeat(leaves, many/4)...)
	if e != api.OK || f.Count(wide) != many+1 || f.Width(wide) != many {
		t.Fatalf("a wide branch: %d, Count %d, Width %d", e, f.Count(wide), f.Width(wide))
	}
	if !bytes.Equal(f.Print(wide), bytes.Repeat([]byte("abcd"), many/4)) {
		t.Error("a wide branch prints other bytes")
	}
	deep := leaves[2]
	var path []int
	for range many {
		deep, _ = f.Branch(2, leaves[0], deep, leaves[3])
		path = append(path, 1)
	}
	want := strings.Repeat("a", many) + "bc" + strings.Repeat("d", many)
	if string(f.Print(deep)) != want || f.Count(deep) != 3*many+1 {
		t.Error("a deep branch prints other bytes")
	}
	if n, ok := f.At(deep, path...); n != leaves[2] || !ok {
		t.Errorf("At the deepest place is %d, %v", n, ok)
	}
	n, e := f.Replace(deep, leaves[0], path...)
	if e != api.OK || string(f.Print(n)) != strings.Replace(want, "bc", "a", 1) || string(f.Print(deep)) != want {
		t.Errorf("Replace at the deepest place is %d, %d", n, e)
	}
}

// garden is a forest of some nodes, among them such as stand in several places.
func garden(t *testing.T) *forest {
	t.Helper()
	f := newForest()
	a, none, b := f.leaf(t, 1, "ab"), f.leaf(t, 2, ""), f.leaf(t, 3, "c")
	empty := f.branch(t, 4)
	x := f.branch(t, 5, a, b)
	y := f.branch(t, 6, x, x, none, empty)
	f.branch(t, 7, y, a, x, y)
	return f
}

// paths are all those of at most n numbers.
func paths(n int, f func(path []int)) {
	f(nil)
	if n == 0 {
		return
	}
	for _, k := range []int{math.MinInt, -1, 0, 1, 2, 3, 4, math.MaxInt} {
		paths(n-1, func(path []int) { f(append([]int{k}, path...)) })
	}
}

// P10.3: At, by all short paths.
func TestAt(t *testing.T) {
	f := garden(t)
	for root, p := range f.plans {
		paths(4, func(path []int) {
			want := p.at(path)
			n, ok := f.At(root, path...)
			switch {
			case ok != (want != nil):
				t.Errorf("At(%d, %v) is %v", root, path, ok)
			case ok && f.plans[n] != want, !ok && n != 0:
				t.Errorf("At(%d, %v) = %d", root, path, n)
			}
		})
	}
	f.agree(t)
}

// P10.3, P10.4: Replace, by all short paths, of all nodes with all others.
func TestReplace(t *testing.T) {
	const roots = 7
	for root := range roots {
		for with := range roots {
			f := garden(t)
			paths(4, func(path []int) {
				count := f.Len()
				was := f.plans[root].at(path)
				n, e := f.Replace(root, with, path...)
				if was == nil {
					if n != 0 || e != api.ErrNone || f.Len() != count {
						t.Errorf("Replace(%d, %d, %v) = %d, %d, Len %d", root, with, path, n, e, f.Len())
					}
					return
				}
				if e != api.OK || f.Len() != count+len(path) {
					t.Fatalf("Replace(%d, %d, %v) = %d, %d, Len %d", root, with, path, n, e, f.Len())
				}
				f.planned(t, n, root, with, path)
			})
			f.agree(t)
		}
	}
}

// planned holds what Replace answers, and the nodes on the path, against what is to be there; it adds their plans.
func (f *forest) planned(t *testing.T, n, root, with int, path []int) {
	t.Helper()
	want := f.plans[root].with(f.plans[with], path)
	if len(path) == 0 && n != with {
		t.Errorf("Replace of the root %d with %d is %d", root, with, n)
	}
	f.plans = append(f.plans, make([]*plan, len(path))...)
	for i := range path {
		at, ok := f.At(n, path[:i]...)
		if !ok || at < len(f.plans)-len(path) || f.plans[at] != nil {
			t.Fatalf("Replace(%d, %d, %v): node %d stands on the path, which is not new", root, with, path, at)
		}
		f.plans[at] = want.at(path[:i])
		kids, was := f.Kids(at), f.Kids(f.mustAt(t, root, path[:i]))
		kids[path[i]], was[path[i]] = 0, 0
		if !slices.Equal(kids, was) {
			t.Errorf("Replace(%d, %d, %v): beside the path stand %v, want %v", root, with, path, kids, was)
		}
	}
	if at := f.mustAt(t, n, path); at != with {
		t.Errorf("Replace(%d, %d, %v) has node %d at its end", root, with, path, at)
	}
}

// mustAt is At of a path that leads somewhere.
func (f *forest) mustAt(t *testing.T, root int, path []int) int {
	t.Helper()
	n, ok := f.At(root, path...)
	if !ok {
		t.Fatalf("At(%d, %v) is false", root, path)
	}
	return n
}

// P10.3: of roots and with nodes that are none Replace is refused, and nothing is added.
func TestReplaceOfNoNodes(t *testing.T) {
	f := garden(t)
	root := f.Len() - 1
	for _, n := range numbers(f.Len()) {
		for _, path := range [][]int{nil, {0}, {0, 1}, {0, 0, 0}, {9}, {-1}} {
			if got, e := f.Replace(n, 0, path...); got != 0 || e != api.ErrNone {
				t.Errorf("Replace(%d, 0, %v) = %d, %d", n, path, got, e)
			}
			if got, e := f.Replace(root, n, path...); got != 0 || e != api.ErrNone {
				t.Errorf("Replace(%d, %d, %v) = %d, %d", root, n, path, got, e)
			}
			if got, e := f.Replace(n, n, path...); got != 0 || e != api.ErrNone {
				t.Errorf("Replace(%d, %d, %v) = %d, %d", n, n, path, got, e)
			}
		}
	}
	f.agree(t)
}

// P10.3: where a width would be too great, Replace is refused, and nothing is added that can be told.
func TestReplaceTooWide(t *testing.T) {
	f := newForest()
	one, none := f.Leaf(1, []byte("a")), f.Leaf(1, nil)
	two := f.Leaf(1, []byte("bb"))
	p := powers(t, f, one, 30)
	inner, _ := f.Branch(2, one, p[29], none)
	root, e := f.Branch(3, p[30], inner, p[28])
	if e != api.OK || f.Width(root) != 1<<30+1<<29+1<<28+1 {
		t.Fatalf("the root: %d, Width %d", e, f.Width(root))
	}
	count := f.Len()
	for _, c := range []struct {
		with int
		path []int
	}{
		{p[29], []int{2, 0}},
		{p[30], []int{1}},
		{p[30], []int{1, 1}},
		{p[29], []int{1, 2}},
		{p[29], []int{1, 0}},
		{root, []int{0}},
		{root, []int{1, 1}},
		{p[28], []int{1, 2}},
	} {
		width := f.Width(root) - f.Width(f.mustAt(t, root, c.path)) + f.Width(c.with)
		n, e := f.Replace(root, c.with, c.path...)
		if width <= most {
			if e != api.OK || f.Width(n) != width {
				t.Errorf("Replace with %d along %v is %d, %d, Width %d", c.with, c.path, n, e, f.Width(n))
			}
			count = f.Len()
			continue
		}
		if n != 0 || e != api.ErrLong || f.Len() != count {
			t.Errorf("Replace with %d along %v is %d, %d, Len %d, want %d", c.with, c.path, n, e, f.Len(), count)
		}
	}
	// Up to the widest, and one more.
	widest, _ := f.Branch(4, p...)
	within, _ := f.Branch(5, none, widest)
	count = f.Len()
	for _, path := range [][]int{{0}, {1, 0}} {
		with := one
		if len(path) == 2 {
			with = two
		}
		if n, e := f.Replace(within, with, path...); n != 0 || e != api.ErrLong || f.Len() != count {
			t.Errorf("one more than the widest along %v is %d, %d, Len %d", path, n, e, f.Len())
		}
	}
	if n, e := f.Replace(within, none, 0); e != api.OK || f.Width(n) != most {
		t.Errorf("just the widest is %d, %d, Width %d", n, e, f.Width(n))
	}
	if n, e := f.Replace(within, two, 1, 1); e != api.OK || f.Width(n) != most {
		t.Errorf("just the widest, by a leaf that is as wide, is %d, %d, Width %d", n, e, f.Width(n))
	}
	if n, e := f.Replace(within, none, 1, 0); e != api.OK || f.Width(n) != most-1 {
		t.Errorf("one less than the widest is %d, %d, Width %d", n, e, f.Width(n))
	}
	if n, e := f.Replace(widest, within); n != within || e != api.OK {
		t.Errorf("the widest as the root itself is %d, %d", n, e)
	}
	last := f.Len()
	if n := f.Leaf(6, []byte("z")); n != last {
		t.Errorf("the next node is %d, want %d", n, last)
	}
}

// The rules that hold everywhere, 4 and 5: what is handed in is not changed and not kept, what is answered is new.
func TestNodesAreTheirOwn(t *testing.T) {
	a := green.New()
	b := []byte("abc")
	leaf := a.Leaf(1, b[:2])
	if string(b) != "abc" {
		t.Errorf("the bytes are %q now", b)
	}
	copy(b, "xyz")
	kids := []int{leaf, leaf, leaf}
	branch, _ := a.Branch(2, kids[:2]...)
	if !slices.Equal(kids, []int{leaf, leaf, leaf}) {
		t.Errorf("the kids are %v now", kids)
	}
	clear(kids)
	kids[0], kids[1] = 9, 9
	path := []int{1, 0}
	top, _ := a.Branch(3, leaf, branch)
	other := a.Leaf(1, []byte("d"))
	n, _ := a.Replace(top, other, path...)
	if !slices.Equal(path, []int{1, 0}) {
		t.Errorf("the path is %v now", path)
	}
	path[0], path[1] = 0, 7
	for range 2 {
		for node, want := range map[int]string{leaf: "ab", branch: "abab", top: "ababab", other: "d", n: "abdab"} {
			if got := string(a.Print(node)); got != want {
				t.Errorf("node %d prints %q, want %q", node, got, want)
			}
			scribble(a.Print(node))
			scribble(a.Bytes(node))
			for _, l := range [][]int{a.Kids(node), append(a.Kids(node), 1)} {
				for i := range l {
					l[i] = -1
				}
			}
		}
		if !slices.Equal(a.Kids(top), []int{leaf, branch}) || string(a.Bytes(leaf)) != "ab" {
			t.Errorf("Kids are %v, Bytes %q", a.Kids(top), a.Bytes(leaf))
		}
	}
}

// scribble writes into bytes, and behind them as far as there is room.
func scribble(b []byte) {
	b = b[:cap(b)]
	for i := range b {
		b[i] = '#'
	}
}
