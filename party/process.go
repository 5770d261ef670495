package party

import (
	"slices"

	"curia/api"
	"curia/ladder"
	"curia/power"
	"curia/seal"
	"curia/sign"
	"curia/sponge"
	"curia/tree"
)

// Process takes another one's step.
func (p *Party) Process(c api.Commit) (next *Party, err api.Errno) {
	if p == nil {
		return nil, api.ErrState
	}
	if err := p.accept(c); err != api.OK {
		return nil, err
	}
	done, added, gone, err := p.apply(c.From, c.Ops, c.Votes)
	if err != api.OK || gone[p.leaf] {
		return nil, err
	}
	if p.isLast() {
		return nil, api.ErrFull
	}
	next = p.Copy()
	next.view = behind(p.view, done, c)
	top, err := next.follow(c, ladder.Plan(done.Tree, c.From, added))
	if err != api.OK {
		return nil, err
	}
	if next.reach(sponge.Derive(p.init, "joint", top[:])) != c.Tag {
		return nil, api.ErrTag
	}
	return next, api.OK
}

// accept tells what is wrong with a commit, by what stands on it.
func (p *Party) accept(c api.Commit) api.Errno {
	switch {
	case c.Epoch != p.view.Epoch:
		return api.ErrEpoch
	case c.From == p.leaf || !slices.Contains(tree.Members(p.view.Tree), c.From):
		return api.ErrFrom
	case !sign.Verify(p.view.Tree.Leaves[c.From].Sign, signed(c), c.Sig):
		return api.ErrSign
	}
	return api.OK
}

// follow opens its box of a commit, whose view it has already, takes the
// secrets from there upwards, and tells the one above all.
func (p *Party) follow(c api.Commit, plan [][2]int) (api.Hash, api.Errno) {
	n := slices.IndexFunc(plan, func(x [2]int) bool { return tree.Under(x[1], p.leaf) })
	if !hasKeys(c) || len(c.Boxes) != len(plan) || n < 0 {
		return api.Hash{}, api.ErrKey
	}
	place, node := plan[n][0], plan[n][1]
	h, err := open(p.secretOf(node), c.Boxes[n])
	if err != api.OK {
		return api.Hash{}, err
	}
	p.forget(place)
	top, ok := p.climb(place, h)
	if !ok {
		return api.Hash{}, api.ErrKey
	}
	return top, api.OK
}

// hasKeys tells whether all new keys of a commit are public keys.
func hasKeys(c api.Commit) bool {
	return power.Is(c.Seal) && power.Is(c.Path[0]) && power.Is(c.Path[1]) && power.Is(c.Path[2])
}

// secretOf is the secret of its leaf's node, or of one above it.
func (p *Party) secretOf(node int) api.Hash {
	if node == 2*p.leaf {
		return p.secret
	}
	return p.above[placeOf(p.leaf, node)]
}

// open is the one secret in a box.
func open(by api.Hash, box []byte) (api.Hash, api.Errno) {
	b, err := seal.Open(ladder.Node(by), box)
	if err != api.OK {
		return api.Hash{}, api.ErrSeal
	}
	if len(b) != len(api.Hash{}) {
		return api.Hash{}, api.ErrKey
	}
	return api.Hash(b), api.OK
}

// forget keeps no secret, below a place of its path, of a node that has no key now.
func (p *Party) forget(place int) {
	path := tree.Path(p.leaf)
	for at := range place {
		if p.view.Tree.Nodes[path[at]] == 0 {
			p.above[at] = api.Hash{}
		}
	}
}
