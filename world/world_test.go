package world_test

import (
	"bytes"
	"encoding/hex"
	"math"
	"slices"
	"sync"
	"testing"

	"curia/api"
	"curia/party"
	"curia/rows"
	"curia/sponge"
	"curia/view"
	"curia/vote"
	"curia/wire"
	"curia/world"
)

func add(i int) api.Op {
	return api.Op{Kind: api.OpAdd, Leaf: party.Leaf(world.Seed(i))}
}
func remove(i int) api.Op  { return api.Op{Kind: api.OpRemove, Who: i} }
func promote(i int) api.Op { return api.Op{Kind: api.OpPromote, Who: i} }
func demote(i int) api.Op  { return api.Op{Kind: api.OpDemote, Who: i} }
func limit(k int) api.Op   { return api.Op{Kind: api.OpLimit, K: k} }

func approve(who, from int, l ...api.Op) api.Act {
	return api.Act{Kind: api.ActVote, Who: who, From: from, Ops: l}
}
func commit(who, draw int, l ...api.Op) api.Act {
	return api.Act{Kind: api.ActCommit, Who: who, Draw: draw, Ops: l}
}
func take(who, n int) api.Act { return api.Act{Kind: api.ActTake, Who: who, N: n} }
func give(who int, b []byte) api.Act {
	return api.Act{Kind: api.ActGive, Who: who, Bytes: b}
}
func crash(who, n int) api.Act { return api.Act{Kind: api.ActCrash, Who: who, N: n} }

// does has a world do acts, all of which must end well.
func does(t *testing.T, w *world.World, l ...api.Act) {
	t.Helper()
	for i, a := range l {
		if err := w.Step(a); err != api.OK {
			t.Fatalf("act %d, %v: %v", i, a, err)
		}
	}
}

// refuses tells of an act that does not end with an error, or that changes
// something but Steps.
func refuses(t *testing.T, w *world.World, a api.Act, want api.Errno) {
	t.Helper()
	before, posts, steps := told(w, 0), w.Post(), w.Steps()
	if err := w.Step(a); err != want {
		t.Errorf("%v: %v, want %v", a, err, want)
	}
	if !bytes.Equal(told(w, 0), before) || !slices.EqualFunc(w.Post(), posts, bytes.Equal) {
		t.Errorf("%v: something has changed", a)
	}
	if w.Steps() != steps+1 {
		t.Errorf("%v: Steps %d, want %d", a, w.Steps(), steps+1)
	}
}

// group is a world where the places 0 to n - 1 are members, at the leaves of
// these numbers, the first some of them admins, and K approvals are needed.
func group(t *testing.T, n, admins, k int) *world.World {
	t.Helper()
	w := world.New()
	for i := 1; i < n; i++ {
		l := []api.Op{add(i)}
		if i < admins {
			l = append(l, promote(i))
		}
		deliver(t, w, 0, l...)
	}
	if k > 1 {
		deliver(t, w, 0, limit(k))
	}
	return w
}

// deliver has place 0, alone, approve, one commit, and all others take what is posted.
func deliver(t *testing.T, w *world.World, by int, l ...api.Op) {
	t.Helper()
	if len(l) > 0 {
		does(t, w, approve(0, w.Party(by).Leaf(), l...))
	}
	from := len(w.Post())
	does(t, w, commit(by, from, l...))
	spread(t, w, by, from)
}

// spread has all take what is posted from a number on.
func spread(t *testing.T, w *world.World, by, from int) {
	t.Helper()
	var members [8]bool
	for i := range 8 {
		members[i] = w.Party(i) != nil
	}
	for i, b := range w.Post()[from:] {
		for who := range 8 {
			if i == 0 && members[who] && who != by {
				does(t, w, take(who, from))
			}
			if x, err := wire.ToWelcome(b); err == api.OK && x.View.Tree.Leaves[x.Leaf] == party.Leaf(world.Seed(who)) {
				does(t, w, take(who, from+i))
			}
		}
	}
}

// paper is what a place's book has of its party's epoch.
func paper(w *world.World, who int) (api.Hash, bool) {
	return w.Book(who).Holds(w.Party(who).View().Epoch)
}

func TestP14_1Seed(t *testing.T) {
	for i, want := range map[int]string{
		0:  "5e6f0c4fc56b4641035f79bdd88fd8feb0276f5c8c80fea4d1fdd5492faa4eaa",
		7:  "07660e0a585cafe6b596df8e688dc93ee3adf0909e217014cface7c32040a857",
		-1: "3fe8f72d9aa1ea5162023207f220a65eb149ad49c8afd6dd335b184fb08c960d",
	} {
		h := world.Seed(i)
		if hex.EncodeToString(h[:]) != want || h != sponge.Derive(api.Hash{}, "seed", rows.Num(i)) {
			t.Errorf("Seed(%d) = %x", i, h)
		}
	}
}

func TestP14_1AtFirst(t *testing.T) {
	w := world.New()
	p, q := w.Party(0), party.Create(world.Seed(0))
	if p == nil || p.View() != q.View() || p.Export("x") != q.Export("x") || p.Leaf() != 0 || p.Signer().Secret() != q.Signer().Secret() {
		t.Error("place 0 has another party")
	}
	for i := range 8 {
		if i > 0 && w.Party(i) != nil {
			t.Errorf("place %d has a party", i)
		}
		if b := w.Book(i); b == nil || b.Len() != 0 {
			t.Errorf("place %d has no empty book", i)
		}
	}
	if len(w.Post()) != 0 || w.Steps() != 0 {
		t.Error("something is posted, or done")
	}
	refuses(t, w, commit(0, 0, add(1)), api.ErrVotes)
}

func TestP14_1ErrArg(t *testing.T) {
	w := group(t, 2, 1, 1)
	for _, kind := range []int{0, -1, 6, 7, 1 << 40, math.MaxInt, math.MinInt} {
		refuses(t, w, api.Act{Kind: kind, Ops: []api.Op{add(5)}}, api.ErrArg)
	}
	for _, who := range []int{-1, 8, 9, 1 << 40, math.MaxInt, math.MinInt} {
		for kind := range 7 {
			refuses(t, w, api.Act{Kind: kind, Who: who, Ops: []api.Op{add(5)}}, api.ErrArg)
		}
	}
}

func TestP14_1VoteErrors(t *testing.T) {
	w := group(t, 3, 2, 1)
	refuses(t, w, approve(5, 0, add(5)), api.ErrState)
	refuses(t, w, approve(5, 9), api.ErrState)
	refuses(t, w, approve(0, 0), api.ErrArg)
	refuses(t, w, approve(0, 0, api.Op{Kind: 9}), api.ErrArg)
	refuses(t, w, approve(0, 3, add(5)), api.ErrFrom)
	refuses(t, w, approve(0, -1, add(5)), api.ErrFrom)
	refuses(t, w, approve(0, 0, add(2)), api.ErrOp)
	refuses(t, w, approve(0, 0, remove(0)), api.ErrOp)
	refuses(t, w, approve(2, 0, add(5)), api.ErrFrom)
	does(t, w, approve(0, 1, add(5)))
	refuses(t, w, approve(0, 1, add(6)), api.ErrLock)
	refuses(t, w, approve(0, 0, add(5)), api.ErrLock)
	refuses(t, w, approve(0, 0, add(2)), api.ErrOp)
	does(t, w, approve(0, 1, add(5)), approve(1, 0, add(5)))
	full := group(t, 8, 1, 1)
	refuses(t, full, approve(0, 0, add(9)), api.ErrFull)
}

func TestP14_1VotesAreInTheBook(t *testing.T) {
	w := group(t, 2, 1, 1)
	v := w.Party(0).View()
	if _, ok := paper(w, 0); ok {
		t.Error("a paper ahead of the vote")
	}
	does(t, w, approve(0, 1, add(5)))
	if h, ok := paper(w, 0); !ok || h != vote.Paper(v, 1, []api.Op{add(5)}) {
		t.Errorf("%x, %v", h, ok)
	}
	if w.Book(0).Len() != 2 || w.Book(1).Len() != 0 {
		t.Errorf("%d and %d lines", w.Book(0).Len(), w.Book(1).Len())
	}
	refuses(t, w, commit(0, 1, add(5)), api.ErrVotes)
	does(t, w, commit(1, 1, add(5)))
}

func TestP14_1VoteThatIsNotFlushed(t *testing.T) {
	for _, keep := range []int{-1, 0, 1, 2, math.MaxInt, math.MinInt} {
		w := group(t, 2, 1, 1)
		lost := approve(0, 0, add(5))
		lost.N, lost.Draw = 1, keep
		does(t, w, lost)
		h, ok := paper(w, 0)
		if ok != (keep > 0) || ok && h != vote.Paper(w.Party(0).View(), 0, []api.Op{add(5)}) || w.Book(0).Len() != 1+min(max(keep, 0), 1) {
			t.Errorf("keep %d: %x, %v", keep, h, ok)
		}
		refuses(t, w, commit(0, 1, add(5)), api.ErrVotes)
		if keep > 0 {
			refuses(t, w, approve(0, 0, add(6)), api.ErrLock)
		} else {
			does(t, w, approve(0, 0, add(6)), commit(0, 1, add(6)))
			continue
		}
		does(t, w, approve(0, 0, add(5)), commit(0, 1, add(5)))
	}
	for _, n := range []int{0, 2, -1, 3, math.MaxInt} {
		w := group(t, 2, 1, 1)
		a := approve(0, 0, add(5))
		a.N = n
		does(t, w, a, commit(0, 1, add(5)))
	}
}

func TestP14_1VoteThatIsToldTwice(t *testing.T) {
	w := group(t, 2, 1, 1)
	lost := approve(0, 0, add(5))
	lost.N = 1
	does(t, w, approve(0, 0, add(5)), lost, approve(0, 0, add(5)), crash(0, 0))
	if h, ok := paper(w, 0); !ok || h != vote.Paper(w.Party(0).View(), 0, []api.Op{add(5)}) {
		t.Error("what was told is lost")
	}
	does(t, w, commit(0, 1, add(5)))
	if c := lastCommit(t, w); len(c.Votes) != 1 {
		t.Errorf("%d votes", len(c.Votes))
	}
}

// lastCommit is the commit that was posted last.
func lastCommit(t *testing.T, w *world.World) api.Commit {
	t.Helper()
	posts := w.Post()
	for _, b := range slices.Backward(posts) {
		if c, err := wire.ToCommit(b); err == api.OK {
			return c
		}
	}
	t.Fatal("no commit is posted")
	return api.Commit{}
}

func TestP14_1BookThatIsFull(t *testing.T) {
	w := group(t, 2, 1, 1)
	other := w.Party(1)
	for w.Book(0).Len() < api.MaxBook {
		does(t, w, approve(0, 0, add(5)))
		c, _, next, err := other.Commit(nil, nil, world.Seed(w.Book(0).Len()))
		b, errno := wire.Commit(c)
		if err != api.OK || errno != api.OK {
			t.Fatalf("Commit: %v, %v", err, errno)
		}
		does(t, w, give(0, b))
		other = next
	}
	refuses(t, w, approve(0, 0, add(5)), api.ErrFull)
	refuses(t, w, approve(0, 0, add(1)), api.ErrOp)
	refuses(t, w, commit(0, 0, add(5)), api.ErrVotes)
}

func TestP14_1Commit(t *testing.T) {
	w := group(t, 4, 3, 2)
	v := w.Party(0).View()
	l := []api.Op{add(6), add(7), promote(3)}
	refuses(t, w, commit(5, 1), api.ErrState)
	refuses(t, w, commit(5, 1, l...), api.ErrState)
	refuses(t, w, commit(3, 1, l...), api.ErrVotes)
	does(t, w, approve(2, 3, l...))
	refuses(t, w, commit(3, 1, l...), api.ErrVotes)
	does(t, w, approve(0, 3, l...), approve(2, 3, l...))
	refuses(t, w, commit(3, 1, add(6)), api.ErrVotes)
	refuses(t, w, commit(3, 1, add(6), add(7)), api.ErrVotes)
	refuses(t, w, commit(2, 1, l...), api.ErrVotes)
	refuses(t, w, commit(3, 1, add(1)), api.ErrOp)
	refuses(t, w, commit(3, 1, make([]api.Op, 5)...), api.ErrArg)

	var votes []api.Vote
	for _, i := range []int{0, 2} {
		x, err := vote.Approve(v, i, w.Party(i).Signer(), 3, l)
		if err != api.OK {
			t.Fatalf("Approve: %v", err)
		}
		votes = append(votes, x)
	}
	c, welcomes, next, err := w.Party(3).Commit(l, votes, sponge.Derive(api.Hash{}, "draw", rows.Num(-12)))
	if err != api.OK || len(welcomes) != 2 {
		t.Fatalf("Commit: %v", err)
	}
	posts := w.Post()
	b, _ := wire.Commit(c)
	posts = append(posts, b)
	for _, x := range welcomes {
		b, _ := wire.Welcome(x)
		posts = append(posts, b)
	}
	does(t, w, commit(3, -12, l...))
	if !slices.EqualFunc(w.Post(), posts, bytes.Equal) {
		t.Error("something else is posted")
	}
	if p := w.Party(3); p.View() != next.View() || p.Export("x") != next.Export("x") {
		t.Error("the place has another party")
	}
	if w.Party(0).View() != v || w.Party(6) != nil {
		t.Error("others have taken what is only posted")
	}
}

func TestP14_1CommitOfNothing(t *testing.T) {
	w := group(t, 2, 1, 1)
	does(t, w, approve(0, 1, add(5)))
	for _, l := range [][]api.Op{nil, {}} {
		does(t, w, commit(1, 3, l...))
		if c := lastCommit(t, w); len(c.Ops) != 0 || len(c.Votes) != 0 {
			t.Errorf("%d Ops, %d votes", len(c.Ops), len(c.Votes))
		}
	}
	refuses(t, w, commit(1, 3, add(5)), api.ErrVotes)
}

func TestP14_1AllVotesRising(t *testing.T) {
	w := group(t, 5, 5, 2)
	for _, i := range []int{4, 1, 3, 1, 0, 4} {
		does(t, w, approve(i, 2, remove(4)))
	}
	does(t, w, commit(2, 0, remove(4)))
	var admins []int
	for _, x := range lastCommit(t, w).Votes {
		admins = append(admins, x.Admin)
	}
	if !slices.Equal(admins, []int{0, 1, 3, 4}) {
		t.Errorf("votes by %v", admins)
	}
}

func TestP14_1FullPost(t *testing.T) {
	w := group(t, 2, 1, 1)
	for len(w.Post()) < api.MaxPost-1 {
		does(t, w, commit(0, len(w.Post())))
	}
	does(t, w, approve(0, 0, add(5)))
	refuses(t, w, commit(0, 1, add(5)), api.ErrFull)
	refuses(t, w, commit(0, 1, add(6)), api.ErrVotes)
	does(t, w, commit(0, 1))
	if len(w.Post()) != api.MaxPost {
		t.Errorf("%d posts", len(w.Post()))
	}
	refuses(t, w, commit(0, 1), api.ErrFull)
	refuses(t, w, commit(0, 1, add(1)), api.ErrOp)
	w = group(t, 2, 1, 1)
	for len(w.Post()) < api.MaxPost-3 {
		does(t, w, commit(0, len(w.Post())))
	}
	does(t, w, approve(0, 0, add(5), add(6)), commit(0, 1, add(5), add(6)))
	if len(w.Post()) != api.MaxPost {
		t.Errorf("%d posts", len(w.Post()))
	}
}

func TestP14_2Take(t *testing.T) {
	w := world.New()
	refuses(t, w, take(0, 0), api.ErrArg)
	refuses(t, w, take(3, 0), api.ErrArg)
	does(t, w, approve(0, 0, add(1), add(2)), commit(0, 0, add(1), add(2)))
	for _, n := range []int{-1, 3, 4, 60, 1 << 40, math.MaxInt, math.MinInt} {
		refuses(t, w, take(1, n), api.ErrArg)
		refuses(t, w, take(0, n), api.ErrArg)
	}
	refuses(t, w, take(1, 0), api.ErrForm)
	refuses(t, w, take(0, 1), api.ErrForm)
	refuses(t, w, take(0, 0), api.ErrEpoch)
	refuses(t, w, take(1, 2), api.ErrKey)
	refuses(t, w, take(5, 1), api.ErrKey)
	does(t, w, take(1, 1), take(2, 2))
	for i := range 3 {
		if p := w.Party(i); p.Leaf() != i || p.View() != w.Party(0).View() || p.Export("x") != w.Party(0).Export("x") {
			t.Errorf("place %d", i)
		}
	}
	refuses(t, w, take(1, 1), api.ErrForm)
	does(t, w, commit(2, 5), take(0, 3), take(1, 3))
	refuses(t, w, take(1, 3), api.ErrEpoch)
	refuses(t, w, take(2, 3), api.ErrEpoch)
	if w.Party(1).View().Epoch != 2 || w.Party(0).Export("x") != w.Party(2).Export("x") || w.Party(0).View() != w.Party(1).View() {
		t.Error("they have not come to one")
	}
}

func TestP14_2Give(t *testing.T) {
	w := group(t, 3, 1, 1)
	for _, b := range [][]byte{nil, {}, {0}, {1}, {2}, bytes.Repeat([]byte{1}, 500), bytes.Repeat([]byte{2}, 500)} {
		refuses(t, w, give(0, b), api.ErrForm)
		refuses(t, w, give(5, b), api.ErrForm)
	}
	does(t, w, approve(0, 0, add(5)), commit(0, 0, add(5)))
	posts := w.Post()
	c, x := posts[len(posts)-2], posts[len(posts)-1]
	bad, _ := wire.ToCommit(c)
	bad.Sig.S = (bad.Sig.S + 1) % api.Q
	b, _ := wire.Commit(bad)
	refuses(t, w, give(1, b), api.ErrSign)
	refuses(t, w, give(1, x), api.ErrForm)
	refuses(t, w, give(5, c), api.ErrForm)
	refuses(t, w, give(6, x), api.ErrKey)
	hello, _ := wire.ToWelcome(x)
	hello.Tag[0]++
	b, _ = wire.Welcome(hello)
	refuses(t, w, give(5, b), api.ErrTag)
	hello.Box[20]++
	b, _ = wire.Welcome(hello)
	refuses(t, w, give(5, b), api.ErrSeal)
	does(t, w, give(1, c), give(5, x), take(2, len(posts)-2))
	if w.Party(5).Leaf() != 3 || w.Party(5).View() != w.Party(1).View() || w.Party(5).Export("x") != w.Party(0).Export("x") {
		t.Error("they have not come to one")
	}
}

func TestP14_2GoneAndBack(t *testing.T) {
	w := group(t, 4, 2, 1)
	deliver(t, w, 3, remove(1))
	if w.Party(1) != nil || w.Book(1) == nil {
		t.Error("who is removed is still there, or its book is not")
	}
	refuses(t, w, commit(1, 0), api.ErrState)
	refuses(t, w, approve(1, 0, add(1)), api.ErrState)
	deliver(t, w, 2, add(1), promote(1))
	if p := w.Party(1); p == nil || p.Leaf() != 1 || p.View() != w.Party(3).View() {
		t.Error("who is added again is not there")
	}
	does(t, w, approve(1, 1, add(6)), commit(1, 9, add(6)))
	if w.Book(1).Len() != 1 || w.Party(0).View().Epoch != w.Party(1).View().Epoch-1 {
		t.Error("it does not go on")
	}
}

func TestP14_2Crash(t *testing.T) {
	w := group(t, 2, 1, 1)
	does(t, w, approve(0, 1, add(5)))
	for _, n := range []int{0, 1, 5, -1, math.MaxInt, math.MinInt} {
		does(t, w, crash(0, n), crash(7, n))
		if h, ok := paper(w, 0); !ok || h != vote.Paper(w.Party(0).View(), 1, []api.Op{add(5)}) || w.Book(0).Len() != 2 || w.Book(7).Len() != 0 {
			t.Errorf("crash, %d kept: %v", n, ok)
		}
	}
	refuses(t, w, approve(0, 0, add(5)), api.ErrLock)
	does(t, w, commit(1, 0, add(5)))
}

func TestP14_2WhatIsTold(t *testing.T) {
	w := group(t, 3, 1, 1)
	for _, i := range []int{-1, 8, 1 << 40, math.MaxInt, math.MinInt} {
		if w.Party(i) != nil || w.Book(i) != nil {
			t.Errorf("place %d has something", i)
		}
	}
	if w.Party(3) != nil || w.Party(2) == nil || w.Party(2) == w.Party(2) || w.Book(0) == w.Book(0) {
		t.Error("parties and books")
	}
	b := w.Book(0)
	b.Write(99, api.Hash{1})
	b.Flush()
	if w.Book(0).Len() != 2 || w.Book(0).Crash(0).Len() != 2 {
		t.Error("a book that was told is the world's own")
	}
	if w.Steps() != 7 {
		t.Errorf("Steps %d", w.Steps())
	}
}

func TestP14_2StepsOfManyAtOnce(t *testing.T) {
	w := group(t, 8, 1, 1)
	begin := make(chan int)
	before, posts := w.Steps(), len(w.Post())
	var all sync.WaitGroup
	fine := make([]int, 8)
	for i := range 8 {
		all.Go(func() {
			<-begin
			for n := range 300 {
				w.Step(api.Act{Kind: 9})
				w.Step(take(i, -1))
				if n%100 == 0 && w.Step(commit(i, 1000*i+n)) == api.OK {
					fine[i]++
				}
			}
		})
	}
	close(begin)
	all.Wait()
	if w.Steps() != before+8*603 {
		t.Errorf("Steps %d, want %d", w.Steps(), before+8*603)
	}
	for i, n := range fine {
		if n != 3 || w.Party(i).View().Epoch != 7+3 {
			t.Errorf("place %d: %d commits, epoch %d", i, n, w.Party(i).View().Epoch)
		}
	}
	if len(w.Post()) != posts+24 {
		t.Errorf("%d posts", len(w.Post()))
	}
}

func TestP14_3NilWorld(t *testing.T) {
	var w *world.World
	for kind := range 7 {
		if err := w.Step(api.Act{Kind: kind}); err != api.ErrArg {
			t.Errorf("kind %d: %v", kind, err)
		}
	}
	if w.Party(0) != nil || w.Book(0) != nil || len(w.Post()) != 0 || w.Steps() != 0 {
		t.Error("a nil World tells something")
	}
}

func TestP14_3NothingIsChangedOrKept(t *testing.T) {
	w, same := group(t, 3, 1, 1), group(t, 3, 1, 1)
	room := []api.Op{add(5), promote(1), limit(7), demote(6)}
	kept := slices.Clone(room)
	does(t, w, approve(0, 0, room[:2]...))
	does(t, same, approve(0, 0, room[:2]...))
	if !slices.Equal(room, kept) {
		t.Error("changed")
	}
	room[0] = api.Op{}
	does(t, w, commit(0, 1, kept[:2]...))
	does(t, same, commit(0, 1, kept[:2]...))
	posts := w.Post()
	b := bytes.Clone(posts[len(posts)-2])
	b = append(b, 1, 2, 3)[:len(b)]
	copyOf := bytes.Clone(b[:len(b)+3])
	does(t, w, give(1, b))
	does(t, same, give(1, bytes.Clone(b)))
	if !bytes.Equal(b[:len(b)+3], copyOf) {
		t.Error("bytes are changed")
	}
	for i := range b {
		b[i] = 0xee
	}
	for _, p := range posts {
		p = p[:cap(p)]
		for i := range p {
			p[i] = 0xee
		}
	}
	for i := range posts[:cap(posts)] {
		posts[:cap(posts)][i] = nil
	}
	if !bytes.Equal(told(w, 0), told(same, 0)) || !slices.EqualFunc(w.Post(), same.Post(), bytes.Equal) {
		t.Error("what is told, or handed in, is the world's own")
	}
	does(t, w, take(2, len(posts)-2), take(5, len(posts)-1))
	if w.Party(5).Export("x") != w.Party(2).Export("x") || !view.Is(w.Party(5).View()) {
		t.Error("it does not go on")
	}
}

func TestW1ZeroWorld(t *testing.T) {
	w := new(world.World)
	for kind := range 7 {
		for who := -1; who < 9; who++ {
			w.Step(api.Act{Kind: kind, Who: who, Ops: []api.Op{add(1)}})
		}
	}
	w.Party(0)
	w.Book(0)
	w.Post()
	w.Steps()
}
