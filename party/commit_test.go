package party_test

import (
	"bytes"
	"reflect"
	"slices"
	"testing"

	"curia/api"
	"curia/ladder"
	"curia/pair"
	"curia/party"
	"curia/rows"
	"curia/seal"
	"curia/sign"
	"curia/sponge"
	"curia/tree"
	"curia/view"
	"curia/vote"
	"curia/wire"
)

// step is what the document says of a commit, worked out apart.
type step struct {
	commit   api.Commit
	welcomes []api.Welcome
	view     api.View
	epoch    api.Hash
	init     api.Hash
}

// byTheBook is the step out of a view with an init secret.
func byTheBook(t *testing.T, v api.View, init api.Hash, leaf int, k *pair.Key, l []api.Op, votes []api.Vote, draw api.Hash) step {
	t.Helper()
	w, added, _, err := view.Apply(v, leaf, l)
	if err != api.OK {
		t.Fatalf("Apply: %v", err)
	}
	own := sponge.Derive(draw, "leaf")
	up, u := ladder.Up(own)
	c := api.Commit{Epoch: v.Epoch, From: leaf, Ops: l, Votes: votes, Seal: ladder.Node(own).Public()}
	w.Tree.Leaves[leaf].Seal = c.Seal
	for i, node := range tree.Path(leaf) {
		c.Path[i] = ladder.Node(up[i]).Public()
		w.Tree.Nodes[node] = c.Path[i]
	}
	for n, x := range ladder.Plan(w.Tree, leaf, added) {
		b, err := seal.Seal(tree.Key(w.Tree, x[1]), sponge.Derive(draw, "box", rows.Num(n)), up[x[0]][:])
		if err != api.OK {
			t.Fatalf("Seal: %v", err)
		}
		c.Boxes = append(c.Boxes, b)
	}
	w.Epoch++
	w.Chain = sponge.Derive(v.Chain, "chain", wire.Body(c))
	h := view.Hash(w)
	joint := sponge.Derive(init, "joint", u[:])
	s := step{view: w, epoch: sponge.Derive(joint, "epoch", h[:])}
	s.init = sponge.Derive(s.epoch, "init")
	c.Tag = sponge.Derive(s.epoch, "tag")
	c.Sig = sign.Sign(k, append(wire.Body(c), c.Tag[:]...))
	s.commit = c
	for i := range 8 {
		if !added[i] {
			continue
		}
		at := slices.IndexFunc([]int{0, 1, 2}, func(at int) bool { return tree.Path(leaf)[at] == tree.Common(i, leaf) })
		b, err := seal.Seal(w.Tree.Leaves[i].Seal, sponge.Derive(draw, "hello", rows.Num(i)), append(joint[:], up[at][:]...))
		if err != api.OK {
			t.Fatalf("Seal: %v", err)
		}
		s.welcomes = append(s.welcomes, api.Welcome{Leaf: i, From: leaf, View: w, Box: b, Tag: c.Tag})
	}
	return s
}

// first is the init secret of who creates.
func first(i int) api.Hash {
	return sponge.Derive(sponge.Derive(sponge.Derive(seed(i), "leaf"), "first"), "init")
}

// isAt tells of a party that is not where a step leads.
func isAt(t *testing.T, what string, p *party.Party, s step) {
	t.Helper()
	if p.View() != s.view {
		t.Fatalf("%s: view %v, want %v", what, p.View(), s.view)
	}
	if p.Export("audit") != sponge.Derive(s.epoch, "export", []byte("audit")) {
		t.Fatalf("%s: another secret", what)
	}
}

// Commits of many kinds, by who created, who joined and who took commits of
// others: each is the document's, and so is where all come to.
func TestP13_2ByTheBook(t *testing.T) {
	g := begin(t, 1)
	init := first(0)
	for i, x := range []struct {
		by int
		l  []api.Op
	}{
		{0, nil},
		{0, []api.Op{add(1)}},
		{1, nil},
		{1, []api.Op{add(2), add(3), add(4)}},
		{3, []api.Op{add(5), add(6), promote(1), limit(2)}},
		{4, nil},
		{6, nil},
		{2, []api.Op{add(7)}},
		{7, []api.Op{remove(2), add(9), promote(3), demote(0)}},
		{9, nil},
		{5, []api.Op{remove(0), remove(3), limit(1), add(10)}},
		{10, []api.Op{remove(6), add(11), remove(3), add(12)}},
		{12, nil},
		{1, []api.Op{remove(4), remove(5), remove(7), remove(2)}},
		{1, nil},
	} {
		p := g.parties[x.by]
		v, leaf, d := p.View(), p.Leaf(), sponge.Sum([]byte("d"), []byte{byte(i)})
		votes := g.votes(x.by, x.l)
		s := byTheBook(t, v, init, leaf, p.Signer(), x.l, votes, d)
		before := p.Copy()
		c, w, next, err := p.Commit(x.l, votes, d)
		if err != api.OK || !wire.Same(c, s.commit) {
			t.Fatalf("%d: %v, %v, want %v", i, err, c, s.commit)
		}
		if len(w) != len(s.welcomes) || len(w) > 0 && !reflect.DeepEqual(w, s.welcomes) {
			t.Fatalf("%d: welcomes %v, want %v", i, w, s.welcomes)
		}
		isAt(t, "who committed", next, s)
		if next.Leaf() != leaf || next.Signer().Secret() != p.Signer().Secret() {
			t.Fatalf("%d: leaf %d, or another key", i, next.Leaf())
		}
		if !alike(p, before) || p.View() != v {
			t.Fatalf("%d: who commits has changed", i)
		}
		again, _, _, _ := p.Commit(x.l, votes, d)
		if !wire.Same(again, c) {
			t.Fatalf("%d: the same again is another commit", i)
		}
		g.take(x.by, c, w, next)
		for j, q := range g.parties {
			isAt(t, "one of all", q, s)
			if j != x.by && q.Signer().Secret() != signer(j).Secret() {
				t.Fatalf("%d: another key of %d", i, j)
			}
		}
		init = s.init
	}
}

func TestP13_2CommitErrors(t *testing.T) {
	g := begin(t, 3)
	g.step(0, promote(1), limit(2))
	p := g.parties[2]
	l := []api.Op{promote(2)}
	both := g.votes(2, l)
	swapped := []api.Vote{both[1], both[0]}
	wrong := []api.Vote{both[0], {Admin: 1, Sig: both[0].Sig}}
	foreign := g.votes(0, l)
	for i, x := range []struct {
		l     []api.Op
		votes []api.Vote
		want  api.Errno
	}{
		{l, both, api.OK},
		{nil, nil, api.OK},
		{[]api.Op{}, []api.Vote{}, api.OK},
		{nil, both, api.ErrVotes},
		{make([]api.Op, 5), both, api.ErrArg},
		{[]api.Op{{Kind: 6}}, nil, api.ErrArg},
		{[]api.Op{demote(2)}, nil, api.ErrOp},
		{[]api.Op{remove(2)}, both, api.ErrOp},
		{[]api.Op{add(1)}, both, api.ErrOp},
		{l, nil, api.ErrVotes},
		{l, both[:1], api.ErrVotes},
		{l, swapped, api.ErrFrom},
		{l, wrong, api.ErrSign},
		{l, foreign, api.ErrSign},
		{[]api.Op{promote(2), limit(1)}, both, api.ErrSign},
	} {
		c, w, next, err := p.Commit(x.l, x.votes, draw("d"))
		if err != x.want {
			t.Errorf("%d: %v, want %v", i, err, x.want)
		}
		if err != api.OK && (!reflect.DeepEqual(c, api.Commit{}) || len(w) != 0 || next != nil) {
			t.Errorf("%d: more than an error is told", i)
		}
	}
	full := begin(t, 8)
	if _, _, next, err := full.parties[3].Commit([]api.Op{add(20)}, nil, draw("d")); err != api.ErrFull || next != nil {
		t.Errorf("all full: %v", err)
	}
}

func TestP13_2LastEpoch(t *testing.T) {
	h := meet(1, 0, 2)
	h.view.Epoch = api.MaxEpoch - 1
	p, err := party.Join(seed(1), h.welcome())
	if err != api.OK {
		t.Fatalf("Join: %v", err)
	}
	if _, _, next, err := p.Commit(nil, nil, draw("d")); err != api.OK || next.View().Epoch != api.MaxEpoch {
		t.Errorf("the last step: %v", err)
	}
	h.view.Epoch = api.MaxEpoch
	p, err = party.Join(seed(1), h.welcome())
	if err != api.OK {
		t.Fatalf("Join: %v", err)
	}
	l := []api.Op{promote(1)}
	x, err := vote.Approve(p.View(), 0, signer(0), 1, l)
	if err != api.OK {
		t.Fatalf("Approve: %v", err)
	}
	for i, x := range []struct {
		l     []api.Op
		votes []api.Vote
		want  api.Errno
	}{
		{nil, nil, api.ErrFull},
		{l, []api.Vote{x}, api.ErrFull},
		{l, nil, api.ErrVotes},
		{nil, []api.Vote{x}, api.ErrVotes},
		{[]api.Op{demote(1)}, nil, api.ErrOp},
		{[]api.Op{{}}, nil, api.ErrArg},
	} {
		c, w, next, err := p.Commit(x.l, x.votes, draw("d"))
		if err != x.want || !reflect.DeepEqual(c, api.Commit{}) || len(w) != 0 || next != nil {
			t.Errorf("%d: %v, want %v", i, err, x.want)
		}
	}
}

func TestP13_5CommitKeepsNothing(t *testing.T) {
	g := begin(t, 2)
	l := append([]api.Op{add(5), add(6)}, api.Op{Kind: 77})
	votes := append(g.votes(0, l[:2]), api.Vote{Admin: 77})
	keptOps, keptVotes := slices.Clone(l), slices.Clone(votes)
	c, w, next, err := g.parties[0].Commit(l[:2], votes[:1], draw("d"))
	if err != api.OK || !slices.Equal(l, keptOps) || !slices.Equal(votes, keptVotes) {
		t.Fatalf("what is handed in is changed: %v", err)
	}
	want, wantWelcomes := clone(c), []api.Welcome{w[0], w[1]}
	boxes := [][]byte{bytes.Clone(w[0].Box), bytes.Clone(w[1].Box)}
	l[0], votes[0] = api.Op{}, api.Vote{}
	if !wire.Same(c, want) {
		t.Error("what is handed in is kept")
	}
	d, x, _, _ := g.parties[0].Commit(keptOps[:2], keptVotes[:1], draw("d"))
	spoil(d)
	spoilBytes(x[0].Box)
	if !wire.Same(c, want) || !bytes.Equal(w[0].Box, boxes[0]) || !bytes.Equal(w[1].Box, boxes[1]) || x[1].View != wantWelcomes[1].View {
		t.Error("two answers share memory")
	}
	q, err := g.parties[1].Process(c)
	if err != api.OK || q.View() != next.View() {
		t.Errorf("Process: %v", err)
	}
}

// clone is a commit that shares nothing with another one.
func clone(c api.Commit) api.Commit {
	c.Ops, c.Votes, c.Boxes = slices.Clone(c.Ops), slices.Clone(c.Votes), slices.Clone(c.Boxes)
	for i := range c.Boxes {
		c.Boxes[i] = bytes.Clone(c.Boxes[i])
	}
	return c
}

// spoil writes all over a commit's lists, and the room behind them.
func spoil(c api.Commit) {
	for i := range c.Ops[:cap(c.Ops)] {
		c.Ops[:cap(c.Ops)][i] = api.Op{Kind: -9}
	}
	for i := range c.Votes[:cap(c.Votes)] {
		c.Votes[:cap(c.Votes)][i] = api.Vote{Admin: -9}
	}
	for _, b := range c.Boxes {
		spoilBytes(b)
	}
	for i := range c.Boxes[:cap(c.Boxes)] {
		c.Boxes[:cap(c.Boxes)][i] = nil
	}
}

// spoilBytes writes all over bytes, and the room behind them.
func spoilBytes(b []byte) {
	b = b[:cap(b)]
	for i := range b {
		b[i] = 0xee
	}
}
