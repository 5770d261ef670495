package party

import (
	"slices"

	"curia/api"
	"curia/ladder"
	"curia/seal"
	"curia/tree"
	"curia/view"
)

// Join is one who is welcome.
func Join(seed api.Hash, w api.Welcome) (*Party, api.Errno) {
	if !fits(seed, w) {
		return nil, api.ErrKey
	}
	p := bySeed(seed)
	p.view, p.leaf = w.View, w.Leaf
	b, err := seal.Open(ladder.Node(p.secret), w.Box)
	if err != api.OK {
		return nil, api.ErrSeal
	}
	size := len(api.Hash{})
	if len(b) != 2*size {
		return nil, api.ErrKey
	}
	if _, ok := p.climb(meeting(w), api.Hash(b[size:])); !ok {
		return nil, api.ErrKey
	}
	if p.reach(api.Hash(b[:size])) != w.Tag {
		return nil, api.ErrTag
	}
	return p, api.OK
}

// fits tells whether a welcome is for a seed, by what stands on it.
func fits(seed api.Hash, w api.Welcome) bool {
	if !view.Is(w.View) || w.Leaf < 0 || w.Leaf >= api.Members || w.Leaf == w.From {
		return false
	}
	if w.View.Tree.Leaves[w.Leaf] != Leaf(seed) || !slices.Contains(tree.Members(w.View.Tree), w.From) {
		return false
	}
	path := tree.Path(w.Leaf)
	for _, node := range path[:meeting(w)] {
		if w.View.Tree.Nodes[node] != 0 {
			return false
		}
	}
	return true
}

// meeting is the place, of the path of who is welcome, of the lowest node
// that stands above the committer, too.
func meeting(w api.Welcome) int { return placeOf(w.Leaf, tree.Common(w.From, w.Leaf)) }
