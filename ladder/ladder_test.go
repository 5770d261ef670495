package ladder_test

import (
	"encoding/hex"
	"math"
	"slices"
	"testing"

	"curia/api"
	"curia/ladder"
	"curia/pair"
	"curia/power"
	"curia/sponge"
	"curia/tree"
)

// key is a public key.
func key(n int) int { return power.Pow(api.G, n) }

// group is a tree with members at some leaves, and keys at some nodes.
func group(leaves []int, nodes ...int) api.Tree {
	var t api.Tree
	for _, i := range leaves {
		t.Leaves[i] = api.Leaf{Sign: key(2*i + 1), Seal: key(2*i + 2)}
	}
	for _, n := range nodes {
		t.Nodes[n] = key(100 + n)
	}
	return t
}

// all is all leaves.
func all() []int { return []int{0, 1, 2, 3, 4, 5, 6, 7} }

// set is a set of leaves.
func set(l ...int) [8]bool {
	var b [8]bool
	for _, i := range l {
		b[i] = true
	}
	return b
}

func TestP8_1KnownSecrets(t *testing.T) {
	h := sponge.Sum([]byte("h"))
	if k := ladder.Node(h); k.Secret() != 642235706 || k.Public() != 1360683155 {
		t.Errorf("Node: %d %d", k.Secret(), k.Public())
	}
	if n := ladder.Next(h); hex.EncodeToString(n[:]) != "0cf8797664522753dd8f3a2e62818cc2f64baceb290711a91cfefad3a39c07b5" {
		t.Errorf("Next: %x", n)
	}
	l, u := ladder.Up(h)
	want := [4]string{
		"0cf8797664522753dd8f3a2e62818cc2f64baceb290711a91cfefad3a39c07b5",
		"fa6af9a1a391c8e7a5f4f53b6900242fc04f0c2e4ac778b3635ef4814a2b651b",
		"3031382978e2e82a97fb9975798ff165f79b9e5b288ef78cff237a35b18ec78e",
		"e4d0573f30c436cdae5bffb478c00c49e8ba5276b7eddc2737c3a3e77e32ce88",
	}
	for i, x := range [4]api.Hash{l[0], l[1], l[2], u} {
		if hex.EncodeToString(x[:]) != want[i] {
			t.Errorf("Up, %d: %x", i, x)
		}
	}
}

func TestP8_1ByTheBook(t *testing.T) {
	for i := range 30 {
		h := sponge.Sum([]byte{byte(i)})
		if ladder.Node(h).Secret() != pair.From(sponge.Derive(h, "node")).Secret() {
			t.Errorf("%d: Node", i)
		}
		if ladder.Next(h) != sponge.Derive(h, "path") {
			t.Errorf("%d: Next", i)
		}
		l, u := ladder.Up(h)
		for at, x := range [4]api.Hash{l[0], l[1], l[2], u} {
			h = sponge.Derive(h, "path")
			if x != h {
				t.Errorf("%d: Up, %d", i, at)
			}
		}
	}
	a, b := ladder.Node(api.Hash{}), ladder.Node(api.Hash{})
	a.Public()
	a.Shared(4)
	if a == b || b.Made() || b.Uses() != 0 {
		t.Error("two answers share memory")
	}
}

func TestP8_2Plan(t *testing.T) {
	for i, x := range []struct {
		tree api.Tree
		leaf int
		but  [8]bool
		want [][2]int
	}{
		{group([]int{0, 1}), 0, set(), [][2]int{{0, 2}}},
		{group([]int{0, 1}), 1, set(), [][2]int{{0, 0}}},
		{group([]int{0, 1}), 0, set(1), nil},
		{group([]int{0}), 0, set(), nil},
		{api.Tree{}, 4, set(), nil},
		{group(all()), 0, set(), [][2]int{{0, 2}, {1, 4}, {1, 6}, {2, 8}, {2, 10}, {2, 12}, {2, 14}}},
		{group(all()), 5, set(), [][2]int{{0, 8}, {1, 12}, {1, 14}, {2, 0}, {2, 2}, {2, 4}, {2, 6}}},
		{group(all(), 1, 3, 5, 7, 9, 11, 13), 5, set(), [][2]int{{0, 8}, {1, 13}, {2, 3}}},
		{group(all(), 1, 3, 5, 7, 9, 11, 13), 2, set(), [][2]int{{0, 6}, {1, 1}, {2, 11}}},
		{group(all(), 1, 13), 5, set(2, 4), [][2]int{{1, 13}, {2, 1}, {2, 6}}},
		{group(all(), 1, 13), 5, set(0, 1, 6, 7), [][2]int{{0, 8}, {1, 13}, {2, 1}, {2, 4}, {2, 6}}},
		{group(all()), 7, set(0, 1, 2, 3, 4, 5, 6, 7), nil},
		{group(all()), 7, set(0, 2, 4, 6), [][2]int{{1, 10}, {2, 2}, {2, 6}}},
		{group([]int{3, 6}), 3, set(), [][2]int{{2, 12}}},
		{group([]int{3, 6}, 7), 6, set(), [][2]int{{2, 6}}},
	} {
		if got := ladder.Plan(x.tree, x.leaf, x.but); !slices.Equal(got, x.want) {
			t.Errorf("%d: %v, want %v", i, got, x.want)
		}
	}
}

func TestP8_2PlanOfNoLeaf(t *testing.T) {
	for _, i := range []int{-1, -2, 8, 9, 15, 1 << 40, math.MaxInt, math.MinInt} {
		if got := ladder.Plan(group(all()[1:], 7), i, set()); len(got) != 0 {
			t.Errorf("Plan of %d: %v", i, got)
		}
		ladder.Plan(group(all(), 7), i, set(0))
		ladder.Plan(group(all()), i, set())
	}
}

// Where a leaf is put, the nodes above it are nought: by steps like that come
// trees in which those that are left out hide nobody else.
func TestP8_3EachIsUnderJustOne(t *testing.T) {
	state := api.Hash{}
	for range 300 {
		state = ladder.Next(state)
		tr := group(all(), 1, 3, 5, 7, 9, 11, 13)
		var but [8]bool
		for _, c := range state[:6] {
			i := int(c % 8)
			switch c / 8 % 3 {
			case 0:
				tr, but[i] = tree.Put(tr, i, api.Leaf{}), false
			case 1:
				tr, but[i] = tree.Put(tr, i, api.Leaf{Sign: key(900 + i), Seal: key(950 + i)}), true
			case 2:
				if !but[i] && tr.Leaves[i] != (api.Leaf{}) {
					for _, n := range tree.Path(i) {
						tr.Nodes[n] = key(1000 + n)
					}
					but = set()
				}
			}
		}
		for _, leaf := range tree.Members(tr) {
			plan := ladder.Plan(tr, leaf, but)
			for i := range 8 {
				n := 0
				for _, x := range plan {
					if tree.Under(x[1], i) {
						n++
						if x[1] != 2*i && tr.Leaves[i] != (api.Leaf{}) && but[i] {
							t.Errorf("%d is left out, and under node %d", i, x[1])
						}
					}
				}
				wanted := tr.Leaves[i] != (api.Leaf{}) && i != leaf && !but[i]
				if wanted && n != 1 || !wanted && n != 0 && tr.Leaves[i] != (api.Leaf{}) {
					t.Errorf("%v, %v, Plan of %d: %v: %d is under %d", tr, but, leaf, plan, i, n)
				}
			}
		}
	}
}

func TestW6NothingIsChangedOrShared(t *testing.T) {
	tr, but := group(all(), 1, 5), set(7)
	kept, keptBut := tr, but
	a, b := ladder.Plan(tr, 0, but), ladder.Plan(tr, 0, but)
	for i := range a {
		a[i] = [2]int{-1, -1}
	}
	if tr != kept || but != keptBut {
		t.Error("changed")
	}
	if !slices.Equal(b, ladder.Plan(tr, 0, but)) {
		t.Error("two answers share memory")
	}
}
