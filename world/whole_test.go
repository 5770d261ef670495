package world_test

import (
	"math"
	"slices"
	"testing"

	"curia/api"
	"curia/audit"
	"curia/party"
	"curia/rows"
	"curia/sign"
	"curia/view"
	"curia/vote"
	"curia/wire"
	"curia/world"
)

// parties is all places' parties.
func parties(w *world.World) [8]*party.Party {
	var l [8]*party.Party
	for i := range l {
		l[i] = w.Party(i)
	}
	return l
}

// approvals is how many admins of a view have approved operations.
func approvals(v api.View, c api.Commit) int {
	paper := vote.Paper(v, c.From, c.Ops)
	var by [8]bool
	for _, x := range c.Votes {
		if x.Admin < 0 || x.Admin > 7 || !v.Admins[x.Admin] || !sign.Verify(v.Tree.Leaves[x.Admin].Sign, paper[:], x.Sig) {
			return -1
		}
		by[x.Admin] = true
	}
	n := 0
	for _, is := range by {
		if is {
			n++
		}
	}
	return n
}

// scripts has scripts of many acts looked at, act by act: what was ahead of it, and is behind it.
func scripts(numbers, acts int, look func(s *script, a api.Act, err api.Errno, was, is [8]*party.Party)) {
	for number := range numbers {
		s := newScript(1000 + number)
		was := parties(s.world)
		s.run(acts, func(a api.Act, err api.Errno) {
			is := parties(s.world)
			look(s, a, err, was, is)
			was = is
		})
	}
}

func TestP0_1EpochsRiseByOne(t *testing.T) {
	steps := 0
	scripts(8, 300, func(s *script, a api.Act, err api.Errno, was, is [8]*party.Party) {
		for i := range 8 {
			if was[i] == nil || is[i] == nil {
				continue
			}
			v, w := was[i].View(), is[i].View()
			if v == w {
				continue
			}
			steps++
			if i != a.Who || err != api.OK || w.Epoch != v.Epoch+1 || was[i].Leaf() != is[i].Leaf() || !view.Is(w) {
				t.Errorf("%v, %v: place %d from epoch %d to %d", a, err, i, v.Epoch, w.Epoch)
			}
		}
	})
	if steps < 100 {
		t.Errorf("only %d steps", steps)
	}
}

func TestP0_2OneHistoryOneView(t *testing.T) {
	var met, gone int
	scripts(8, 300, func(s *script, a api.Act, err api.Errno, was, is [8]*party.Party) {
		l := append(was[:], is[:]...)
		if !audit.Agree(l) {
			t.Fatalf("%v: two of one history are not of one view and secret", a)
		}
		for i, p := range is {
			if p != nil && !audit.Keys(p) {
				t.Fatalf("%v: place %d has not its keys", a, i)
			}
			for _, q := range is[:i] {
				if p != nil && q != nil && p.View().Chain == q.View().Chain {
					met++
				}
			}
		}
		if a.Kind == api.ActTake && err == api.OK && is[a.Who] == nil {
			gone++
			c, _ := wire.ToCommit(s.world.Post()[a.N])
			leaf := was[a.Who].Leaf()
			if !slices.Contains(c.Ops, api.Op{Kind: api.OpRemove, Who: leaf}) {
				t.Fatalf("%v: gone, but nobody removed it", a)
			}
		}
	})
	if met < 1000 || gone < 1 {
		t.Errorf("only %d met, only %d were removed", met, gone)
	}
}

// Who was removed keeps all it ever had, and takes every post: it comes to
// nothing of what the others have from then on.
func TestP0_2WhoWasRemoved(t *testing.T) {
	for leaf := 1; leaf < 8; leaf++ {
		w := group(t, 8, 1, 1)
		for i := range 8 {
			deliver(t, w, i)
		}
		old, draw := w.Party(leaf), len(w.Post())
		deliver(t, w, (leaf+1)%8, remove(leaf))
		deliver(t, w, (leaf+2)%8)
		secrets := map[api.Hash]int{}
		for i := range 8 {
			if p := w.Party(i); p != nil {
				secrets[p.Export("audit")]++
			}
		}
		if len(secrets) != 1 || w.Party(leaf) != nil {
			t.Fatalf("%d secrets", len(secrets))
		}
		for _, b := range w.Post()[draw:] {
			c, _ := wire.ToCommit(b)
			if next, _ := old.Process(c); next != nil {
				t.Errorf("leaf %d goes on", leaf)
			}
			// As if it had not been removed: no box is for it.
			c.Epoch, c.Ops, c.Votes = old.View().Epoch, nil, nil
			for i := range 8 {
				c.From = i
				if i == leaf {
					continue
				}
				c.Sig = sign.Sign(w.Party((leaf+1)%8).Signer(), append(wire.Body(c), c.Tag[:]...))
				if next, err := old.Process(c); next != nil || err == api.OK {
					t.Errorf("leaf %d goes on by a changed commit", leaf)
				}
			}
		}
	}
}

func TestP0_3Approved(t *testing.T) {
	var changes, others int
	scripts(12, 300, func(s *script, a api.Act, err api.Errno, was, is [8]*party.Party) {
		if was[a.Who] == nil || err != api.OK || a.Kind == api.ActVote || a.Kind == api.ActCrash {
			return
		}
		v, posts := was[a.Who].View(), s.world.Post()
		c := lastCommit(t, s.world)
		if a.Kind == api.ActTake {
			c, _ = wire.ToCommit(posts[a.N])
		} else if a.Kind == api.ActGive {
			c, _ = wire.ToCommit(a.Bytes)
		}
		changed := is[a.Who] == nil || audit.Change(v, is[a.Who].View())
		if changed && (len(c.Ops) == 0 || approvals(v, c) < v.K) {
			t.Fatalf("%v: a change by %d approvals of %d", a, approvals(v, c), v.K)
		}
		if changed {
			changes++
		} else {
			others++
		}
	})
	if changes < 50 || others < 30 {
		t.Errorf("only %d changes, %d others", changes, others)
	}
}

// Commits that lack approvals, or have made up ones, are made by one who
// signs what it likes; nobody takes them.
func TestP0_3NotApproved(t *testing.T) {
	w := group(t, 4, 3, 2)
	p, v := w.Party(3), w.Party(3).View()
	l := []api.Op{promote(3), limit(1)}
	c, _, _, err := p.Commit(nil, nil, world.Seed(99))
	if err != api.OK {
		t.Fatalf("Commit: %v", err)
	}
	c.Ops = l
	good, err := vote.Approve(v, 0, w.Party(0).Signer(), 3, l)
	if err != api.OK {
		t.Fatalf("Approve: %v", err)
	}
	paper := vote.Paper(v, 3, l)
	own := sign.Sign(p.Signer(), paper[:])
	for _, votes := range [][]api.Vote{
		nil, {good}, {good, good}, {{Admin: 0, Sig: own}, {Admin: 1, Sig: own}}, {good, {Admin: 1, Sig: own}},
		{good, {Admin: 1, Sig: good.Sig}}, {good, {Admin: 3, Sig: own}}, {good, {Admin: 2}},
	} {
		c.Votes = votes
		c.Sig = sign.Sign(p.Signer(), append(wire.Body(c), c.Tag[:]...))
		b, err := wire.Commit(c)
		if err != api.OK {
			t.Fatalf("%v", err)
		}
		for who := range 3 {
			if err := w.Step(give(who, b)); err != api.ErrVotes && err != api.ErrSign && err != api.ErrFrom {
				t.Errorf("%v is taken: %v", votes, err)
			}
			if w.Party(who).View() != v {
				t.Fatalf("%v has changed place %d", votes, who)
			}
		}
	}
}

// rival is a list that somebody wants to commit.
type rival struct {
	by int
	l  []api.Op
}

// More than half of the admins must approve: whoever votes for what, in
// whatever order, and whenever power goes away, of two lists at most one is committed.
func TestP0_4OneThing(t *testing.T) {
	number := 4711
	below := func(n int) int {
		number = number * 48271 % 2147483647
		return number % n
	}
	var none, some int
	for range 60 {
		n := 2 + below(3)
		w := group(t, n, n, n/2+1)
		v := w.Party(0).View()
		rivals := []rival{{below(n), []api.Op{add(6)}}, {below(n), []api.Op{add(7)}}, {below(n), []api.Op{add(7), promote(n)}}}
		posts, told := len(w.Post()), map[int]api.Hash{}
		for range 40 {
			x, who := rivals[below(3)], below(n)
			if w.Party(who).View() != v {
				continue
			}
			switch below(8) {
			case 0:
				does(t, w, crash(who, below(3)-1))
			case 1:
				w.Step(commit(x.by, below(99), x.l...))
			default:
				a := approve(who, x.by, x.l...)
				a.N, a.Draw = below(3), below(3)-1
				if w.Step(a) == api.OK && a.N != 1 {
					told[who] = vote.Paper(v, x.by, x.l)
				}
			}
			for who, paper := range told {
				for _, keep := range []int{0, 1, -1, math.MaxInt} {
					if h, ok := w.Book(who).Crash(keep).Holds(v.Epoch); !ok || h != paper {
						t.Fatalf("place %d: what was told is not in the book", who)
					}
				}
			}
		}
		seen := map[string]int{}
		for _, b := range w.Post()[posts:] {
			if c, err := wire.ToCommit(b); err == api.OK {
				seen[string(rows.Num(c.From))+string(view.Ops(c.Ops))]++
			}
		}
		if len(seen) > 1 {
			t.Fatalf("%d lists are committed out of one view", len(seen))
		}
		if len(seen) == 1 {
			some++
		} else {
			none++
		}
	}
	if some < 10 || none < 5 {
		t.Errorf("%d with a commit, %d without", some, none)
	}
}

// Enough approve, all is delivered: all come to one child, and it is just that.
func TestP0_5ItGoesOn(t *testing.T) {
	w := world.New()
	type plan struct {
		by int
		l  []api.Op
	}
	for i, x := range []plan{
		{0, []api.Op{add(1), add(2), promote(1), limit(2)}},
		{1, []api.Op{add(3), add(4), promote(3)}},
		{4, nil},
		{4, []api.Op{promote(2), demote(0)}},
		{0, []api.Op{add(5), add(6), add(7), limit(3)}},
		{7, nil},
		{6, []api.Op{remove(0), remove(3), limit(2)}},
		{5, []api.Op{add(3), add(0)}},
		{3, []api.Op{remove(7), promote(5)}},
		{0, nil},
		{2, []api.Op{remove(0), remove(3), remove(4), add(7)}},
		{7, []api.Op{limit(1)}},
		{5, []api.Op{demote(2), demote(1)}},
	} {
		p := w.Party(x.by)
		v := p.View()
		want, added, gone, err := view.Apply(v, p.Leaf(), x.l)
		if err != api.OK {
			t.Fatalf("%d: %v", i, err)
		}
		for who := range 8 {
			if q := w.Party(who); q != nil && v.Admins[q.Leaf()] && len(x.l) > 0 {
				does(t, w, approve(who, p.Leaf(), x.l...))
			}
		}
		from, before := len(w.Post()), parties(w)
		does(t, w, commit(x.by, i, x.l...))
		spread(t, w, x.by, from)
		child := w.Party(x.by)
		got := child.View()
		if got.Epoch != v.Epoch+1 || audit.Change(got, want) {
			t.Fatalf("%d: %v, want %v", i, got, want)
		}
		members := 0
		for who, q := range parties(w) {
			if q != nil {
				members++
				if q.View() != got || q.Export("audit") != child.Export("audit") || !audit.Keys(q) {
					t.Fatalf("%d: place %d has come to another child", i, who)
				}
			} else if before[who] != nil && !gone[before[who].Leaf()] {
				t.Fatalf("%d: place %d is gone", i, who)
			}
		}
		in := 0
		for leaf := range 8 {
			if got.Tree.Leaves[leaf] != (api.Leaf{}) {
				in++
			}
			if added[leaf] && got.Tree.Leaves[leaf] != want.Tree.Leaves[leaf] {
				t.Fatalf("%d: at leaf %d is another one", i, leaf)
			}
		}
		if members != in {
			t.Fatalf("%d: %d members, %d parties", i, in, members)
		}
	}
	if w.Party(7) == nil || len(w.Post()) != 13+10 {
		t.Errorf("%d posts", len(w.Post()))
	}
}
