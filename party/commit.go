package party

import (
	"slices"

	"curia/api"
	"curia/ladder"
	"curia/rows"
	"curia/seal"
	"curia/sign"
	"curia/sponge"
	"curia/tree"
)

// Commit makes a step.
func (p *Party) Commit(l []api.Op, votes []api.Vote, draw api.Hash) (c api.Commit, w []api.Welcome, next *Party, err api.Errno) {
	if p == nil {
		return api.Commit{}, nil, nil, api.ErrState
	}
	done, added, _, err := p.apply(p.leaf, l, votes)
	if err == api.OK && p.isLast() {
		err = api.ErrFull
	}
	if err != api.OK {
		return api.Commit{}, nil, nil, err
	}
	next = p.Copy()
	top := next.renew(draw)
	c = api.Commit{Epoch: p.view.Epoch, From: p.leaf, Ops: slices.Clone(l), Votes: slices.Clone(votes)}
	c.Seal = ladder.Node(next.secret).Public()
	for place, h := range next.above {
		c.Path[place] = ladder.Node(h).Public()
	}
	c.Boxes = next.boxes(done.Tree, added, draw)
	next.view = behind(p.view, done, c)
	joint := sponge.Derive(p.init, "joint", top[:])
	c.Tag = next.reach(joint)
	c.Sig = sign.Sign(p.Signer(), signed(c))
	return c, next.welcomes(added, joint, c.Tag, draw), next, api.OK
}

// renew takes new secrets for its leaf and the nodes above, and tells the one
// above all.
func (p *Party) renew(draw api.Hash) api.Hash {
	p.secret = sponge.Derive(draw, "leaf")
	above, top := ladder.Up(p.secret)
	p.above = above
	return top
}

// boxes has for each node of the plan the secret of the place above it.
func (p *Party) boxes(t api.Tree, added [8]bool, draw api.Hash) [][]byte {
	var l [][]byte
	for n, x := range ladder.Plan(t, p.leaf, added) {
		place, node := x[0], x[1]
		// Keys of nodes that a plan names are public keys, and secrets are short.
		b, _ := seal.Seal(tree.Key(t, node), sponge.Derive(draw, "box", rows.Num(n)), p.above[place][:])
		l = append(l, b)
	}
	return l
}

// welcomes is for each one that was added what it needs to join.
func (p *Party) welcomes(added [8]bool, joint, tag, draw api.Hash) []api.Welcome {
	var l []api.Welcome
	for leaf, is := range added {
		if !is {
			continue
		}
		h := p.above[placeOf(p.leaf, tree.Common(leaf, p.leaf))]
		// Whoever is added has a public key, and two secrets are short.
		b, _ := seal.Seal(p.view.Tree.Leaves[leaf].Seal, sponge.Derive(draw, "hello", rows.Num(leaf)), slices.Concat(joint[:], h[:]))
		l = append(l, api.Welcome{Leaf: leaf, From: p.leaf, View: p.view, Box: b, Tag: tag})
	}
	return l
}

// placeOf is at which place of a leaf's path a node stands.
func placeOf(leaf, node int) int {
	path := tree.Path(leaf)
	return slices.Index(path[:], node)
}
