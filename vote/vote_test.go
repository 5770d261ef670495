package vote_test

import (
	"encoding/hex"
	"math"
	"slices"
	"testing"

	"curia/api"
	"curia/pair"
	"curia/power"
	"curia/rows"
	"curia/sign"
	"curia/sponge"
	"curia/view"
	"curia/vote"
)

// key is the key by which a leaf signs.
func key(i int) *pair.Key { return pair.From(sponge.Sum([]byte{byte(i)})) }

// group is a view with members at some leaves, some of them admins.
func group(k int, members, admins []int) api.View {
	v := api.View{Epoch: 3, K: k, Chain: sponge.Sum([]byte("c"))}
	for _, i := range members {
		v.Tree.Leaves[i] = api.Leaf{Sign: key(i).Public(), Seal: power.Pow(4, i+9)}
	}
	for _, i := range admins {
		v.Admins[i] = true
	}
	return v
}

// three is a group of three, two of them admins, both needed.
func three() api.View { return group(2, []int{0, 2, 5}, []int{0, 2}) }

// ops is a list that can be done in it.
func ops() []api.Op {
	return []api.Op{{Kind: api.OpPromote, Who: 5}, {Kind: api.OpLimit, K: 3}}
}

// full is a group of eight admins.
func full(k int) api.View {
	l := []int{0, 1, 2, 3, 4, 5, 6, 7}
	return group(k, l, l)
}

// votes is the approvals of some admins.
func votes(t *testing.T, v api.View, from int, l []api.Op, admins ...int) []api.Vote {
	t.Helper()
	var got []api.Vote
	for _, i := range admins {
		x, err := vote.Approve(v, i, key(i), from, l)
		if err != api.OK {
			t.Fatalf("Approve by %d: %v", i, err)
		}
		got = append(got, x)
	}
	return got
}

// add is an operation that adds one.
func add(n int) api.Op {
	return api.Op{Kind: api.OpAdd, Leaf: api.Leaf{Sign: power.Pow(4, 100+n), Seal: power.Pow(4, 200+n)}}
}

func TestP10_1KnownPaper(t *testing.T) {
	h := vote.Paper(three(), 5, ops())
	if hex.EncodeToString(h[:]) != "36abd00f051144f8b3e9a7f7198a22cd8b4b1982340eb82f5533131ddf161b17" {
		t.Errorf("%x", h)
	}
}

func TestP10_1PaperByTheBook(t *testing.T) {
	for _, v := range []api.View{{}, three(), full(8), {Epoch: -1, K: math.MaxInt}} {
		for _, from := range []int{-1, 0, 5, math.MaxInt, math.MinInt} {
			for _, l := range [][]api.Op{nil, {}, ops(), make([]api.Op, 100)} {
				want := sponge.Derive(view.Hash(v), "vote", rows.Num(from), view.Ops(l))
				if vote.Paper(v, from, l) != want {
					t.Errorf("Paper of %v by %d", l, from)
				}
			}
		}
	}
	v := three()
	v.Epoch++
	if vote.Paper(v, 5, ops()) == vote.Paper(three(), 5, ops()) || vote.Paper(three(), 0, ops()) == vote.Paper(three(), 5, ops()) {
		t.Error("the view, or the committer, does not count")
	}
}

func TestP10_1Approve(t *testing.T) {
	for i, want := range map[int]api.Sig{0: {E: 955641810, S: 882825042}, 2: {E: 552912181, S: 436912505}} {
		x, err := vote.Approve(three(), i, key(i), 5, ops())
		if err != api.OK || x != (api.Vote{Admin: i, Sig: want}) {
			t.Errorf("%d: %v, %v", i, x, err)
		}
		paper := vote.Paper(three(), 5, ops())
		if x.Sig != sign.Sign(key(i), paper[:]) {
			t.Errorf("%d: another signature", i)
		}
	}
}

func TestP10_1ApproveErrors(t *testing.T) {
	v := three()
	bad := v
	bad.K = 3
	undoable := []api.Op{{Kind: api.OpDemote, Who: 5}}
	for i, x := range []struct {
		v     api.View
		admin int
		k     *pair.Key
		from  int
		l     []api.Op
		want  api.Errno
	}{
		{v, 0, key(0), 5, nil, api.ErrArg},
		{v, 0, key(0), 5, []api.Op{}, api.ErrArg},
		{v, 0, key(0), 99, nil, api.ErrArg},
		{bad, 0, key(0), 5, ops(), api.ErrArg},
		{api.View{}, 0, key(0), 5, ops(), api.ErrArg},
		{v, 0, key(0), 5, make([]api.Op, 5), api.ErrArg},
		{v, 0, key(0), 5, []api.Op{{Kind: 9}}, api.ErrArg},
		{v, 9, nil, 99, []api.Op{{Kind: 9}}, api.ErrArg},
		{v, 0, key(0), 1, ops(), api.ErrFrom},
		{v, 0, key(0), -1, ops(), api.ErrFrom},
		{v, 0, key(0), 99, undoable, api.ErrFrom},
		{v, 0, key(0), 5, undoable, api.ErrOp},
		{v, 5, nil, 5, undoable, api.ErrOp},
		{full(1), 0, key(0), 5, []api.Op{add(1)}, api.ErrFull},
		{full(1), 9, nil, 5, []api.Op{add(1)}, api.ErrFull},
		{v, 5, key(5), 5, ops(), api.ErrFrom},
		{v, 1, key(1), 5, ops(), api.ErrFrom},
		{v, -1, key(0), 5, ops(), api.ErrFrom},
		{v, 8, key(0), 5, ops(), api.ErrFrom},
		{v, math.MaxInt, nil, 5, ops(), api.ErrFrom},
		{v, math.MinInt, nil, 5, ops(), api.ErrFrom},
		{v, 0, key(2), 5, ops(), api.ErrKey},
		{v, 2, key(0), 5, ops(), api.ErrKey},
		{v, 0, nil, 5, ops(), api.ErrKey},
		{v, 0, new(pair.Key), 5, ops(), api.ErrKey},
	} {
		got, err := vote.Approve(x.v, x.admin, x.k, x.from, x.l)
		if err != x.want || got != (api.Vote{}) {
			t.Errorf("%d: %v, %v, want %v", i, got, err, x.want)
		}
	}
}

func TestP10_2NothingToApprove(t *testing.T) {
	some := votes(t, three(), 5, ops(), 0, 2)
	for _, v := range []api.View{three(), {}, {Epoch: -1}} {
		for _, from := range []int{5, 1, -1, math.MaxInt} {
			for _, l := range [][]api.Op{nil, {}} {
				if err := vote.Check(v, from, l, nil); err != api.OK {
					t.Errorf("nothing: %v", err)
				}
				if err := vote.Check(v, from, l, []api.Vote{}); err != api.OK {
					t.Errorf("nothing: %v", err)
				}
				if err := vote.Check(v, from, l, some); err != api.ErrVotes {
					t.Errorf("nothing, but votes: %v", err)
				}
				if err := vote.Check(v, from, l, make([]api.Vote, 1)); err != api.ErrVotes {
					t.Errorf("nothing, but a vote: %v", err)
				}
			}
		}
	}
}

func TestP10_2CheckErrors(t *testing.T) {
	v := three()
	bad := v
	bad.K = 3
	both := votes(t, v, 5, ops(), 0, 2)
	zero, two := both[0], both[1]
	other := votes(t, v, 0, ops(), 0, 2)
	as := func(admin int, s api.Sig) api.Vote { return api.Vote{Admin: admin, Sig: s} }
	undoable := []api.Op{{Kind: api.OpDemote, Who: 5}}
	for i, x := range []struct {
		v     api.View
		from  int
		l     []api.Op
		votes []api.Vote
		want  api.Errno
	}{
		{v, 5, ops(), both, api.OK},
		{bad, 5, ops(), both, api.ErrArg},
		{v, 5, make([]api.Op, 5), both, api.ErrArg},
		{v, 5, []api.Op{{Kind: 9}}, nil, api.ErrArg},
		{v, 1, ops(), both, api.ErrFrom},
		{v, 8, undoable, nil, api.ErrFrom},
		{v, 5, undoable, []api.Vote{as(9, api.Sig{})}, api.ErrOp},
		{full(1), 5, []api.Op{add(1)}, []api.Vote{as(9, api.Sig{})}, api.ErrFull},
		{v, 5, ops(), nil, api.ErrVotes},
		{v, 5, ops(), []api.Vote{}, api.ErrVotes},
		{v, 5, ops(), []api.Vote{zero}, api.ErrVotes},
		{v, 5, ops(), []api.Vote{two}, api.ErrVotes},
		{v, 5, ops(), []api.Vote{two, zero}, api.ErrFrom},
		{v, 5, ops(), []api.Vote{zero, zero}, api.ErrFrom},
		{v, 5, ops(), []api.Vote{zero, two, two}, api.ErrFrom},
		{v, 5, ops(), []api.Vote{zero, two, zero}, api.ErrFrom},
		{v, 5, ops(), []api.Vote{zero, as(5, two.Sig)}, api.ErrFrom},
		{v, 5, ops(), []api.Vote{zero, as(5, sig(v, 5, 5, ops()))}, api.ErrFrom},
		{v, 5, ops(), []api.Vote{as(-1, zero.Sig), two}, api.ErrFrom},
		{v, 5, ops(), []api.Vote{zero, two, as(8, zero.Sig)}, api.ErrFrom},
		{v, 5, ops(), []api.Vote{as(math.MinInt, zero.Sig)}, api.ErrFrom},
		{v, 5, ops(), []api.Vote{as(math.MaxInt, zero.Sig)}, api.ErrFrom},
		{v, 5, ops(), []api.Vote{as(1, zero.Sig)}, api.ErrFrom},
		{v, 5, ops(), []api.Vote{as(0, two.Sig), two}, api.ErrSign},
		{v, 5, ops(), []api.Vote{zero, as(2, zero.Sig)}, api.ErrSign},
		{v, 5, ops(), []api.Vote{zero, as(2, api.Sig{})}, api.ErrSign},
		{v, 5, ops(), []api.Vote{as(0, api.Sig{})}, api.ErrSign},
		{v, 5, ops(), []api.Vote{as(0, api.Sig{}), as(0, api.Sig{})}, api.ErrSign},
		{v, 5, ops(), []api.Vote{zero, as(0, api.Sig{})}, api.ErrFrom},
		{v, 5, ops(), other, api.ErrSign},
		{v, 0, ops(), both, api.ErrSign},
		{v, 5, ops()[:1], both, api.ErrSign},
		{v, 5, ops(), []api.Vote{zero, other[1]}, api.ErrSign},
	} {
		if err := vote.Check(x.v, x.from, x.l, x.votes); err != x.want {
			t.Errorf("%d: %v, want %v", i, err, x.want)
		}
	}
}

// sig is a signature over a paper by whoever is asked, admin or not.
func sig(v api.View, by, from int, l []api.Op) api.Sig {
	paper := vote.Paper(v, from, l)
	return sign.Sign(key(by), paper[:])
}

func TestP10_2AnotherViewIsAnotherVote(t *testing.T) {
	both := votes(t, three(), 5, ops(), 0, 2)
	for name, change := range map[string]func(v *api.View){
		"Epoch": func(v *api.View) { v.Epoch++ },
		"Chain": func(v *api.View) { v.Chain[0]++ },
		"K":     func(v *api.View) { v.K = 1 },
		"Seal":  func(v *api.View) { v.Tree.Leaves[5].Seal = 4 },
	} {
		v := three()
		change(&v)
		if err := vote.Check(v, 5, ops(), both); err != api.ErrSign {
			t.Errorf("%s: %v", name, err)
		}
	}
}

func TestP10_3AsManyAsTheThreshold(t *testing.T) {
	for k := 1; k <= 8; k++ {
		v := full(k)
		l := []api.Op{{Kind: api.OpDemote, Who: 7}, {Kind: api.OpLimit, K: 1}}
		for n := range 9 {
			admins := []int{0, 1, 2, 3, 4, 5, 6, 7}[8-n:]
			want := api.OK
			if n < k {
				want = api.ErrVotes
			}
			if err := vote.Check(v, 3, l, votes(t, v, 3, l, admins...)); err != want {
				t.Errorf("K %d, %d votes: %v, want %v", k, n, err, want)
			}
		}
	}
}

func TestP10_3NothingIsChanged(t *testing.T) {
	room := append(ops(), api.Op{Kind: 7}, api.Op{Kind: 8})
	kept := slices.Clone(room)
	v := three()
	both := votes(t, v, 5, room[:2], 0, 2)
	spare := append(slices.Clone(both), api.Vote{Admin: 7}, api.Vote{Admin: 7})
	keptSpare := slices.Clone(spare)
	if err := vote.Check(v, 5, room[:2], spare[:2]); err != api.OK {
		t.Errorf("%v", err)
	}
	if v != three() || !slices.Equal(room, kept) || !slices.Equal(spare, keptSpare) {
		t.Error("changed")
	}
}
