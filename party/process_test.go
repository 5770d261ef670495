package party_test

import (
	"math"
	"slices"
	"testing"

	"curia/api"
	"curia/ladder"
	"curia/party"
	"curia/power"
	"curia/rows"
	"curia/seal"
	"curia/sign"
	"curia/sponge"
	"curia/tree"
	"curia/view"
	"curia/vote"
	"curia/wire"
)

// again is a commit, signed again by its committer's seed as it stands.
func again(c api.Commit, by int) api.Commit {
	c.Sig = sign.Sign(signer(by), append(wire.Body(c), c.Tag[:]...))
	return c
}

// refused tells of a Process that does not end with just an error.
func refused(t *testing.T, what string, p *party.Party, c api.Commit, want api.Errno) {
	t.Helper()
	before := p.Copy()
	if next, err := p.Process(c); err != want || next != nil {
		t.Errorf("%s: %v, want %v", what, err, want)
	}
	if !alike(p, before) {
		t.Errorf("%s: it has changed", what)
	}
}

// eight is a group of eight whose nodes all have keys.
func eight(t *testing.T) *group {
	g := begin(t, 8)
	for i := range 8 {
		g.step(i)
	}
	return g
}

func TestP13_3EpochFromSign(t *testing.T) {
	g := begin(t, 3)
	p := g.parties[1]
	c, _, _ := g.commit(0, promote(1))
	for _, n := range []int{c.Epoch - 1, c.Epoch + 1, -1, math.MaxInt, math.MinInt} {
		d := c
		d.Epoch = n
		refused(t, "another epoch", p, again(d, 0), api.ErrEpoch)
		d.From, d.Sig = 9, api.Sig{}
		refused(t, "another epoch, from nobody", p, d, api.ErrEpoch)
	}
	for _, n := range []int{-1, 1, 3, 7, 8, 1 << 40, math.MaxInt, math.MinInt} {
		d := c
		d.From = n
		refused(t, "from nobody, or itself", p, again(d, 0), api.ErrFrom)
		refused(t, "from nobody, or itself", p, again(d, 1), api.ErrFrom)
	}
	own, _, _ := g.commit(1)
	refused(t, "its own", p, own, api.ErrFrom)
	for name, change := range map[string]func(c *api.Commit){
		"Sig E":    func(c *api.Commit) { c.Sig.E++ },
		"Sig S":    func(c *api.Commit) { c.Sig.S-- },
		"no Sig":   func(c *api.Commit) { c.Sig = api.Sig{} },
		"odd Sig":  func(c *api.Commit) { c.Sig.S += api.Q },
		"From":     func(c *api.Commit) { c.From = 2 },
		"Ops":      func(c *api.Commit) { c.Ops = nil },
		"many Ops": func(c *api.Commit) { c.Ops = make([]api.Op, 1000) },
		"Votes":    func(c *api.Commit) { c.Votes = nil },
		"Seal":     func(c *api.Commit) { c.Seal = 0 },
		"Path":     func(c *api.Commit) { c.Path[2] = 4 },
		"Boxes":    func(c *api.Commit) { c.Boxes = nil },
		"Tag":      func(c *api.Commit) { c.Tag[0]++ },
	} {
		d := clone(c)
		change(&d)
		refused(t, "another "+name, p, d, api.ErrSign)
	}
	refused(t, "signed by another member", p, again(c, 2), api.ErrSign)
	if next, err := p.Process(c); err != api.OK || next == nil {
		t.Errorf("the commit itself: %v", err)
	}
}

func TestP13_3Approvals(t *testing.T) {
	g := begin(t, 4)
	g.step(0, promote(1), promote(2), limit(2))
	p := g.parties[3]
	c, _, _ := g.commit(1, demote(0))
	if len(c.Votes) != 3 {
		t.Fatalf("%d votes", len(c.Votes))
	}
	d := c
	d.Votes = c.Votes[:1]
	refused(t, "too few", p, again(d, 1), api.ErrVotes)
	d.Votes = nil
	refused(t, "none", p, again(d, 1), api.ErrVotes)
	d.Votes = []api.Vote{c.Votes[1], c.Votes[0]}
	refused(t, "not rising", p, again(d, 1), api.ErrFrom)
	d.Votes = []api.Vote{c.Votes[0], {Admin: 1, Sig: c.Votes[0].Sig}}
	refused(t, "another's signature", p, again(d, 1), api.ErrSign)
	d = c
	d.Ops = []api.Op{demote(2)}
	refused(t, "votes for another list", p, again(d, 1), api.ErrSign)
	d.Ops = nil
	refused(t, "votes for nothing", p, again(d, 1), api.ErrVotes)
	d.Ops = []api.Op{demote(3)}
	refused(t, "what can not be done", p, again(d, 1), api.ErrOp)
	d.Ops = []api.Op{remove(1)}
	refused(t, "who removes itself", p, again(d, 1), api.ErrOp)
	d.Ops = []api.Op{{Kind: 9}}
	refused(t, "no operation", p, again(d, 1), api.ErrArg)
	d.Ops = make([]api.Op, 5)
	refused(t, "too many", p, again(d, 1), api.ErrArg)
	full := begin(t, 8)
	e, _, _ := full.commit(1)
	e.Ops = []api.Op{add(20)}
	refused(t, "all full", full.parties[2], again(e, 1), api.ErrFull)
	two := c
	two.Votes = []api.Vote{c.Votes[0], c.Votes[2]}
	refused(t, "enough votes, but another body than the tag's", p, again(two, 1), api.ErrTag)
}

func TestP13_3Gone(t *testing.T) {
	g := begin(t, 5)
	c, _, _ := g.commit(0, remove(3), add(20))
	for what, d := range map[string]api.Commit{"itself": c, "no keys": {}, "no boxes": {}, "no tag": {}} {
		if what != "itself" {
			d = clone(c)
		}
		switch what {
		case "no keys":
			d.Seal, d.Path = 0, [3]int{}
		case "no boxes":
			d.Boxes = nil
		case "no tag":
			d.Tag = api.Hash{}
		}
		d = again(d, 0)
		if next, err := g.parties[3].Process(d); next != nil || err != api.OK {
			t.Errorf("%s: %v, %v", what, next, err)
		}
		if next, err := g.parties[4].Process(d); (err == api.OK) != (what == "itself") || (next != nil) != (what == "itself") {
			t.Errorf("%s, by one who stays: %v", what, err)
		}
	}
	d := c
	d.Sig.E++
	refused(t, "gone, by nobody's signature", g.parties[3], d, api.ErrSign)
	d = c
	d.Votes = nil
	refused(t, "gone, without approvals", g.parties[3], again(d, 0), api.ErrVotes)
}

func TestP13_3KeysAndBoxes(t *testing.T) {
	g := eight(t)
	c, _, _ := g.commit(5, remove(2))
	mine := slices.IndexFunc(planOf(t, g, c), func(x [2]int) bool { return tree.Under(x[1], 6) })
	p := g.parties[6]
	for _, y := range []int{0, 1, 2, -1, api.P - 1, api.P, math.MaxInt} {
		d := clone(c)
		d.Seal = y
		refused(t, "no Seal", p, again(d, 5), api.ErrKey)
		for i := range 3 {
			d := clone(c)
			d.Path[i] = y
			refused(t, "no Path", p, again(d, 5), api.ErrKey)
			d.Boxes[mine] = nil
			refused(t, "no Path, no box", p, again(d, 5), api.ErrKey)
		}
	}
	d := clone(c)
	d.Boxes = append(d.Boxes, d.Boxes[0])
	refused(t, "one box more", p, again(d, 5), api.ErrKey)
	d.Boxes[mine] = nil
	refused(t, "one box more, and a bad one", p, again(d, 5), api.ErrKey)
	for n := range len(c.Boxes) {
		d.Boxes = c.Boxes[:n]
		refused(t, "fewer boxes", p, again(d, 5), api.ErrKey)
	}
	for name, b := range map[string][]byte{"none": nil, "short": make([]byte, 11), "noughts": make([]byte, 44), "long": make([]byte, 213), "another's": c.Boxes[mine+1]} {
		d := clone(c)
		d.Boxes[mine] = b
		refused(t, "box, "+name, p, again(d, 5), api.ErrSeal)
	}
	for i := range c.Boxes {
		d := clone(c)
		d.Boxes[i][20]++
		want := api.ErrTag
		if i == mine {
			want = api.ErrSeal
		}
		refused(t, "a box changed", p, again(d, 5), want)
	}
}

// planOf is for whom a commit's boxes are.
func planOf(t *testing.T, g *group, c api.Commit) [][2]int {
	t.Helper()
	w, added, _, err := view.Apply(g.parties[c.From].View(), c.From, c.Ops)
	if err != api.OK {
		t.Fatalf("Apply: %v", err)
	}
	return ladder.Plan(w.Tree, c.From, added)
}

// What is in the box: a secret whose key, and those of the ones that follow,
// must be the new ones.
func TestP13_3SecretsInBoxes(t *testing.T) {
	g := eight(t)
	d := draw("made up")
	up, _ := ladder.Up(sponge.Derive(d, "leaf"))
	c, _, next, err := g.parties[5].Commit(nil, nil, d)
	if err != api.OK {
		t.Fatalf("Commit: %v", err)
	}
	for i, x := range planOf(t, g, c) {
		place, node := x[0], x[1]
		to := tree.Key(next.View().Tree, node)
		reader := 0
		for !tree.Under(node, reader) {
			reader++
		}
		p := g.parties[reader]
		for _, n := range []int{0, 1, 31, 33, 64, 200} {
			e := clone(c)
			e.Boxes[i], _ = seal.Seal(to, draw("b"), append(up[place][:], make([]byte, 168)...)[:n])
			refused(t, "a secret of a wrong length", p, again(e, 5), api.ErrKey)
		}
		e := clone(c)
		other := draw("other")
		e.Boxes[i], _ = seal.Seal(to, draw("b"), other[:])
		refused(t, "another secret", p, again(e, 5), api.ErrKey)
		if place < 2 {
			e.Boxes[i], _ = seal.Seal(to, draw("b"), up[place+1][:])
			refused(t, "the secret above", p, again(e, 5), api.ErrKey)
		}
		for at := range 3 {
			e := clone(c)
			e.Path[at] = power.Pow(4, 77)
			want := api.ErrKey
			if at < place {
				want = api.ErrTag
			}
			refused(t, "another key above", p, again(e, 5), want)
		}
		e = clone(c)
		e.Boxes[i], _ = seal.Seal(to, draw("another draw"), up[place][:])
		refused(t, "another box of the same secret", p, again(e, 5), api.ErrTag)
	}
	for _, i := range []int{0, 4, 7} {
		e := clone(c)
		e.Tag[31] ^= 1
		refused(t, "another tag", g.parties[i], again(e, 5), api.ErrTag)
		e = clone(c)
		e.Seal = power.Pow(4, 78)
		refused(t, "another Seal", g.parties[i], again(e, 5), api.ErrTag)
	}
}

// A box for a node is opened by that node's secret: for each reader, whatever
// nodes have keys, by the document's box.
func TestP13_3OpensByTheNode(t *testing.T) {
	g := eight(t)
	g.step(1, remove(6))
	g.step(7)
	g.step(0, add(20))
	for by := range 8 {
		if g.parties[by] == nil {
			continue
		}
		c, w, next := g.commit(by)
		nodes := 0
		for i, x := range planOf(t, g, c) {
			if x[1]%2 == 1 {
				nodes++
			}
			n := 0
			for leaf := range 8 {
				if tree.Under(x[1], leaf) {
					n++
				}
			}
			if len(c.Boxes[i]) != 44 || n == 0 {
				t.Errorf("box %d of %d: %d bytes", i, by, len(c.Boxes[i]))
			}
		}
		if nodes == 0 {
			t.Errorf("all boxes of %d are for leaves", by)
		}
		g.take(by, c, w, next)
	}
}

func TestP13_3LastEpoch(t *testing.T) {
	h := meet(1, 0, 2)
	h.view.Epoch = api.MaxEpoch
	p, err := party.Join(seed(1), h.welcome())
	if err != api.OK {
		t.Fatalf("Join: %v", err)
	}
	c := again(api.Commit{Epoch: api.MaxEpoch, From: 0}, 0)
	refused(t, "behind the last epoch", p, c, api.ErrFull)
	c.Seal, c.Path = 4, [3]int{4, 4, 4}
	refused(t, "behind the last epoch, with keys", p, again(c, 0), api.ErrFull)
	l := []api.Op{remove(2)}
	x, err := vote.Approve(h.view, 0, signer(0), 0, l)
	if err != api.OK {
		t.Fatalf("Approve: %v", err)
	}
	c.Ops, c.Votes = l, []api.Vote{x}
	refused(t, "approved in the last epoch", p, again(c, 0), api.ErrFull)
	c.Votes = nil
	refused(t, "not approved in the last epoch", p, again(c, 0), api.ErrVotes)
	c.Ops = []api.Op{demote(2)}
	refused(t, "what can not be done in the last epoch", p, again(c, 0), api.ErrOp)
}

func TestP13_5ProcessKeepsNothing(t *testing.T) {
	g := eight(t)
	c, w, next := g.commit(3, remove(1), add(20), promote(2))
	kept := clone(c)
	before := g.parties[6].Copy()
	p, err := g.parties[6].Process(c)
	if err != api.OK || !wire.Same(c, kept) || !alike(g.parties[6], before) {
		t.Fatalf("changed: %v", err)
	}
	q, _ := g.parties[6].Process(kept)
	spoil(c)
	spoilBytes(w[0].Box)
	if p == q || !alike(p, q) || p.View() != next.View() {
		t.Error("kept")
	}
	d, _, _, err := p.Commit(nil, nil, draw("d"))
	e, _, _, _ := q.Commit(nil, nil, draw("d"))
	if err != api.OK || !wire.Same(d, e) {
		t.Errorf("kept: %v", err)
	}
}

func TestP13_3TagsAreThoseOfTheDraw(t *testing.T) {
	// Two draws, two histories: who took one takes nothing that follows on the other.
	g := begin(t, 3)
	c, _, left, err := g.parties[0].Commit(nil, nil, sponge.Derive(draw("d"), "1", rows.Num(1)))
	d, _, right, also := g.parties[0].Commit(nil, nil, sponge.Derive(draw("d"), "1", rows.Num(2)))
	if err != api.OK || also != api.OK || left.View() == right.View() || left.Export("x") == right.Export("x") {
		t.Fatalf("two draws come to one: %v, %v", err, also)
	}
	one, _ := g.parties[1].Process(c)
	two, _ := g.parties[1].Process(d)
	follows, _, _, _ := left.Commit(nil, nil, draw("f"))
	if next, err := one.Process(follows); err != api.OK || next == nil {
		t.Errorf("of its own history: %v", err)
	}
	if next, err := two.Process(follows); err == api.OK || next != nil {
		t.Error("of another history, and taken")
	}
}
