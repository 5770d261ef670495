package tree_test

import (
	"encoding/hex"
	"math"
	"slices"
	"testing"

	"curia/api"
	"curia/power"
	"curia/rows"
	"curia/sponge"
	"curia/tree"
)

// below is the two nodes below each node that is no leaf's, as the document lists them.
func below() map[int][2]int {
	return map[int][2]int{1: {0, 2}, 5: {4, 6}, 9: {8, 10}, 13: {12, 14}, 3: {1, 5}, 11: {9, 13}, 7: {3, 11}}
}

// under tells whether a leaf is under a node, by going down.
func under(node, leaf int) bool {
	l, ok := below()[node]
	return node == 2*leaf || ok && (under(l[0], leaf) || under(l[1], leaf))
}

// outside is numbers of which there is no leaf and no node.
func outside() []int {
	return []int{-1, -2, -8, 15, 16, 17, 1 << 40, math.MaxInt, math.MinInt, math.MinInt + 1, math.MaxInt - 1, math.MaxInt/2 + 1}
}

// noLeaves is numbers of which there is no leaf.
func noLeaves() []int { return append(outside(), 8, 9, 14) }

// key is a public key.
func key(n int) int { return power.Pow(api.G, n) }

// leaf is a member's keys.
func leaf(n int) api.Leaf { return api.Leaf{Sign: key(2*n + 1), Seal: key(2*n + 2)} }

// full is a tree with a member at each of some leaves, and keys at some nodes.
func full(leaves []int, nodes ...int) api.Tree {
	var t api.Tree
	for _, i := range leaves {
		t.Leaves[i] = leaf(i)
	}
	for _, n := range nodes {
		t.Nodes[n] = key(100 + n)
	}
	return t
}

// all is all leaves.
func all() []int { return []int{0, 1, 2, 3, 4, 5, 6, 7} }

func TestP7_1PathAndSide(t *testing.T) {
	for i, x := range [8]struct{ path, side [3]int }{
		{[3]int{1, 3, 7}, [3]int{2, 5, 11}},
		{[3]int{1, 3, 7}, [3]int{0, 5, 11}},
		{[3]int{5, 3, 7}, [3]int{6, 1, 11}},
		{[3]int{5, 3, 7}, [3]int{4, 1, 11}},
		{[3]int{9, 11, 7}, [3]int{10, 13, 3}},
		{[3]int{9, 11, 7}, [3]int{8, 13, 3}},
		{[3]int{13, 11, 7}, [3]int{14, 9, 3}},
		{[3]int{13, 11, 7}, [3]int{12, 9, 3}},
	} {
		if got := tree.Path(i); got != x.path {
			t.Errorf("Path(%d) = %v", i, got)
		}
		if got := tree.Side(i); got != x.side {
			t.Errorf("Side(%d) = %v", i, got)
		}
	}
	for _, i := range noLeaves() {
		if tree.Path(i) != [3]int{} || tree.Side(i) != [3]int{} {
			t.Errorf("leaf %d: %v, %v", i, tree.Path(i), tree.Side(i))
		}
	}
}

func TestP7_1Under(t *testing.T) {
	for node := -3; node < 20; node++ {
		for i := range 8 {
			if got := tree.Under(node, i); got != under(node, i) {
				t.Errorf("Under(%d, %d) = %v", node, i, got)
			}
		}
	}
	for _, i := range noLeaves() {
		for _, node := range append(outside(), 0, 1, 7, 8, 14, 2*i) {
			if tree.Under(node, i) {
				t.Errorf("Under(%d, %d)", node, i)
			}
		}
	}
	for _, node := range outside() {
		for i := range 8 {
			if tree.Under(node, i) {
				t.Errorf("Under(%d, %d)", node, i)
			}
		}
	}
}

func TestP7_1Common(t *testing.T) {
	lowest := []int{0, 2, 4, 6, 8, 10, 12, 14, 1, 5, 9, 13, 3, 11, 7}
	for a := range 8 {
		for b := range 8 {
			at := slices.IndexFunc(lowest, func(n int) bool { return under(n, a) && under(n, b) })
			if got := tree.Common(a, b); got != lowest[at] {
				t.Errorf("Common(%d, %d) = %d, want %d", a, b, got, lowest[at])
			}
		}
		for _, b := range noLeaves() {
			if tree.Common(a, b) != 0 || tree.Common(b, a) != 0 || tree.Common(b, b) != 0 {
				t.Errorf("Common of %d and %d is a node", a, b)
			}
		}
	}
}

func TestP7_2TreesThatMayBe(t *testing.T) {
	for i, x := range []api.Tree{{}, full(all()), full(all(), 1, 3, 5, 7, 9, 11, 13), full([]int{3}), full(nil, 7), full([]int{7}, 13)} {
		if !tree.Is(x) {
			t.Errorf("%d may not be", i)
		}
	}
}

func TestP7_2TreesThatMayNotBe(t *testing.T) {
	none := []int{1, 2, -1, -4, api.P - 1, api.P, api.P + 4, math.MaxInt, math.MinInt}
	for i := range 8 {
		for _, y := range none {
			for _, x := range []api.Leaf{{Sign: y, Seal: 4}, {Sign: 4, Seal: y}, {Sign: y, Seal: y}, {Sign: y}, {Seal: y}} {
				tr := full(all())
				tr.Leaves[i] = x
				if tree.Is(tr) {
					t.Errorf("leaf %d: %v may be", i, x)
				}
			}
		}
		for _, x := range []api.Leaf{{Sign: 4}, {Seal: 4}} {
			tr := full(nil)
			tr.Leaves[i] = x
			if tree.Is(tr) {
				t.Errorf("leaf %d: %v may be", i, x)
			}
		}
	}
	for n := range 15 {
		for _, y := range append(none, 4) {
			tr := full(all())
			tr.Nodes[n] = y
			if tree.Is(tr) != (n%2 == 1 && y == 4) {
				t.Errorf("node %d: %d: %v", n, y, tree.Is(tr))
			}
		}
	}
}

func TestP7_2Members(t *testing.T) {
	for _, l := range [][]int{{}, {0}, {7}, {1, 3, 4}, all()} {
		if got := tree.Members(full(l, 7)); !slices.Equal(got, l) {
			t.Errorf("Members of %v: %v", l, got)
		}
	}
	tr := api.Tree{}
	tr.Leaves[2].Sign = -1
	tr.Leaves[5].Seal = 3
	if got := tree.Members(tr); !slices.Equal(got, []int{2, 5}) {
		t.Errorf("half members: %v", got)
	}
	got := tree.Members(tr)
	got[0] = 9
	if tree.Members(tr)[0] != 2 {
		t.Error("two answers share memory")
	}
}

func TestP7_2Key(t *testing.T) {
	tr := full(all())
	for n := range 15 {
		tr.Nodes[n] = 1000 + n
	}
	for n := range 15 {
		want := 1000 + n
		if n%2 == 0 {
			want = leaf(n / 2).Seal
		}
		if got := tree.Key(tr, n); got != want {
			t.Errorf("Key of node %d: %d, want %d", n, got, want)
		}
	}
	for _, n := range outside() {
		if got := tree.Key(tr, n); got != 0 {
			t.Errorf("Key of node %d: %d", n, got)
		}
	}
}

func TestP7_2Res(t *testing.T) {
	for i, x := range []struct {
		tree api.Tree
		node int
		want []int
	}{
		{api.Tree{}, 7, nil},
		{api.Tree{}, 4, nil},
		{full([]int{2}), 4, []int{4}},
		{full(all()), 7, []int{0, 2, 4, 6, 8, 10, 12, 14}},
		{full(all(), 7), 7, []int{7}},
		{full(all(), 3), 7, []int{3, 8, 10, 12, 14}},
		{full(all(), 11), 7, []int{0, 2, 4, 6, 11}},
		{full(all(), 1, 13), 7, []int{1, 4, 6, 8, 10, 13}},
		{full(all(), 1, 13), 3, []int{1, 4, 6}},
		{full(all(), 1, 13), 11, []int{8, 10, 13}},
		{full([]int{1, 6}), 7, []int{2, 12}},
		{full([]int{1, 6}), 5, nil},
		{full([]int{1, 6}), 2, []int{2}},
		{full([]int{1, 6}), 0, nil},
		{full(nil, 5), 3, []int{5}},
	} {
		if got := tree.Res(x.tree, x.node); !slices.Equal(got, x.want) {
			t.Errorf("%d: Res of node %d: %v, want %v", i, x.node, got, x.want)
		}
	}
	odd := full(all(), 7)
	odd.Leaves[0].Seal = 0
	odd.Leaves[1].Seal = -5
	odd.Nodes[0], odd.Nodes[7] = 77, 0
	if got := tree.Res(odd, 3); !slices.Equal(got, []int{2, 4, 6}) {
		t.Errorf("a leaf without Seal: %v", got)
	}
	for _, n := range outside() {
		if got := tree.Res(full(all(), 7), n); len(got) != 0 {
			t.Errorf("Res of node %d: %v", n, got)
		}
	}
}

func TestP7_2Put(t *testing.T) {
	whole := full(all(), 1, 3, 5, 7, 9, 11, 13)
	for i := range 8 {
		for _, x := range []api.Leaf{{}, leaf(50), {Sign: -1, Seal: 2}} {
			want := whole
			want.Leaves[i] = x
			for n := range 15 {
				if n != 2*i && under(n, i) {
					want.Nodes[n] = 0
				}
			}
			if got := tree.Put(whole, i, x); got != want {
				t.Errorf("Put at %d: %v, want %v", i, got, want)
			}
		}
	}
	for _, i := range noLeaves() {
		if got := tree.Put(whole, i, leaf(1)); got != (api.Tree{}) {
			t.Errorf("Put at %d: %v", i, got)
		}
	}
	odd := whole
	odd.Nodes[2], odd.Nodes[14] = 6, 7
	if got := tree.Put(odd, 1, leaf(1)); got.Nodes[2] != 6 || got.Nodes[14] != 7 {
		t.Error("Put changes nodes of leaves")
	}
}

func TestP7_2HashOfKnownTrees(t *testing.T) {
	var tr api.Tree
	h := tree.Hash(tr)
	if hex.EncodeToString(h[:]) != "51347c8f6072f718eba984644988fce3a32221e2461714c931c0bded3a926ca5" {
		t.Errorf("nothing: %x", h)
	}
	tr.Leaves[0], tr.Leaves[5] = api.Leaf{Sign: 4, Seal: 16}, api.Leaf{Sign: 64, Seal: 256}
	tr.Nodes[7], tr.Nodes[9], tr.Nodes[2], tr.Nodes[14] = 1024, 4096, -7, 9
	h = tree.Hash(tr)
	if hex.EncodeToString(h[:]) != "d4ad162d1d47e654198152aeb8fbfcec1a77523baee0f37954400c933eeed17e" {
		t.Errorf("something: %x", h)
	}
}

func TestP7_2HashCountsEverything(t *testing.T) {
	var l [][]byte
	var tr api.Tree
	for i := range tr.Leaves {
		tr.Leaves[i] = api.Leaf{Sign: 10 + i, Seal: 20 + i}
		l = append(l, rows.Num(10+i), rows.Num(20+i))
	}
	for i := range tr.Nodes {
		tr.Nodes[i] = 50 + i
		l = append(l, rows.Num(50+i))
	}
	if tree.Hash(tr) != sponge.Derive(api.Hash{}, "tree", l...) {
		t.Error("another sum than the document's")
	}
	for i := range tr.Nodes {
		other := tr
		other.Nodes[i]++
		if tree.Hash(other) == tree.Hash(tr) {
			t.Errorf("node %d does not count", i)
		}
	}
}

func TestP7_3NothingIsChanged(t *testing.T) {
	tr := full(all(), 1, 3, 5, 7, 9, 11, 13)
	kept := tr
	tree.Put(tr, 3, api.Leaf{})
	tree.Put(tr, -1, api.Leaf{})
	tree.Res(tr, 7)
	tree.Members(tr)
	tree.Hash(tr)
	tree.Is(tr)
	if tr != kept {
		t.Error("changed")
	}
	a, b := tree.Res(full(all()), 7), tree.Res(full(all()), 7)
	for i := range a {
		a[i] = -1
	}
	if !slices.Equal(b, []int{0, 2, 4, 6, 8, 10, 12, 14}) {
		t.Error("two answers share memory")
	}
}
