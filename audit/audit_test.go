package audit_test

import (
	"slices"
	"testing"

	"curia/api"
	"curia/audit"
	"curia/ladder"
	"curia/party"
	"curia/power"
	"curia/seal"
	"curia/sponge"
	"curia/view"
	"curia/vote"
)

// seed is a member's seed.
func seed(i int) api.Hash { return sponge.Sum([]byte("seed"), []byte{byte(i)}) }

// draw is a draw.
func draw(s string) api.Hash { return sponge.Sum([]byte(s)) }

// meet is a view in which seed 1 joins at leaf 1, by the member at leaf 0.
func meet() api.View {
	v := api.View{Epoch: 7, K: 1, Admins: [8]bool{true}, Chain: draw("chain")}
	v.Tree.Leaves[0], v.Tree.Leaves[1] = party.Leaf(seed(0)), party.Leaf(seed(1))
	s := draw("secret")
	for _, node := range []int{1, 3, 7} {
		v.Tree.Nodes[node] = ladder.Node(s).Public()
		s = ladder.Next(s)
	}
	return v
}

// joined is who joins in a view by a joint secret.
func joined(t *testing.T, v api.View, joint api.Hash) *party.Party {
	t.Helper()
	s, h := draw("secret"), view.Hash(v)
	b, _ := seal.Seal(party.Leaf(seed(1)).Seal, draw("box"), append(joint[:], s[:]...))
	tag := sponge.Derive(sponge.Derive(joint, "epoch", h[:]), "tag")
	p, err := party.Join(seed(1), api.Welcome{Leaf: 1, From: 0, View: v, Box: b, Tag: tag})
	if err != api.OK {
		t.Fatalf("Join: %v", err)
	}
	return p
}

// three is three parties of one history, and the one at its beginning.
func three(t *testing.T) (all []*party.Party, first *party.Party) {
	t.Helper()
	first = party.Create(seed(0))
	l := []api.Op{{Kind: api.OpAdd, Leaf: party.Leaf(seed(1))}, {Kind: api.OpAdd, Leaf: party.Leaf(seed(2))}}
	x, err := vote.Approve(first.View(), 0, first.Signer(), 0, l)
	if err != api.OK {
		t.Fatalf("Approve: %v", err)
	}
	_, w, zero, err := first.Commit(l, []api.Vote{x}, draw("d"))
	if err != api.OK {
		t.Fatalf("Commit: %v", err)
	}
	all = []*party.Party{zero}
	for i := range w {
		p, err := party.Join(seed(i+1), w[i])
		if err != api.OK {
			t.Fatalf("Join: %v", err)
		}
		all = append(all, p)
	}
	return all, first
}

func TestP15_1Agree(t *testing.T) {
	all, first := three(t)
	c, _, next, err := all[1].Commit(nil, nil, draw("e"))
	if err != api.OK {
		t.Fatalf("Commit: %v", err)
	}
	taken, err := all[2].Process(c)
	if err != api.OK {
		t.Fatalf("Process: %v", err)
	}
	for i, l := range [][]*party.Party{
		nil, {}, {nil}, {nil, nil, nil}, {first}, {first, first.Copy()}, all,
		append(slices.Clone(all), nil, first), {nil, all[0], nil, all[1], first, next, taken, nil},
		{new(party.Party), new(party.Party)}, {party.Create(seed(5)), all[1]},
	} {
		if !audit.Agree(l) {
			t.Errorf("%d: they do not agree", i)
		}
	}
}

func TestP15_1OneHistoryTwoSecretsOrViews(t *testing.T) {
	v := meet()
	one, same, other := joined(t, v, draw("joint")), joined(t, v, draw("joint")), joined(t, v, draw("another"))
	if !audit.Agree([]*party.Party{one, same}) {
		t.Error("one secret, and they do not agree")
	}
	w := v
	w.Epoch++
	later := joined(t, w, draw("joint"))
	w = v
	w.Tree.Nodes[5] = power.Pow(4, 5)
	more := joined(t, w, draw("joint"))
	w = v
	w.Chain[31]++
	far := joined(t, w, draw("another"))
	all, first := three(t)
	for _, x := range []*party.Party{other, later, more, party.Create(seed(1))} {
		l := []*party.Party{one, same, x}
		if x.View().Epoch == 0 {
			l = []*party.Party{first, x}
		}
		if audit.Agree(l) {
			t.Errorf("%v and %v agree", l[0].View(), x.View())
		}
		for i := range 20 {
			l = slices.Insert(l, i%len(l), nil, all[i%3])
		}
		if audit.Agree(l) {
			t.Error("among others they agree")
		}
		slices.Reverse(l)
		if audit.Agree(l) {
			t.Error("backwards they agree")
		}
	}
	if !audit.Agree([]*party.Party{one, far, same, all[0]}) {
		t.Error("another history is no bar")
	}
}

func TestP15_1Keys(t *testing.T) {
	all, first := three(t)
	for i, p := range append(all, first, joined(t, meet(), draw("joint")), party.Create(seed(9))) {
		if !audit.Keys(p) {
			t.Errorf("%d: not its keys", i)
		}
	}
	if audit.Keys(nil) || audit.Keys(new(party.Party)) {
		t.Error("nobody has keys")
	}
}

func TestP15_1Change(t *testing.T) {
	v := meet()
	for name, x := range map[string]struct {
		change func(v *api.View)
		want   bool
	}{
		"nothing":          {func(v *api.View) {}, false},
		"Epoch":            {func(v *api.View) { v.Epoch++ }, false},
		"Chain":            {func(v *api.View) { v.Chain[0]++ }, false},
		"a member's Seal":  {func(v *api.View) { v.Tree.Leaves[1].Seal = 4 }, false},
		"no Seal":          {func(v *api.View) { v.Tree.Leaves[1].Seal = 0 }, false},
		"nodes":            {func(v *api.View) { v.Tree.Nodes = [15]int{} }, false},
		"K":                {func(v *api.View) { v.K++ }, true},
		"K of 0":           {func(v *api.View) { v.K = 0 }, true},
		"one more admin":   {func(v *api.View) { v.Admins[1] = true }, true},
		"an admin, nobody": {func(v *api.View) { v.Admins[7] = true }, true},
		"another admin":    {func(v *api.View) { v.Admins = [8]bool{false, true} }, true},
		"no admin":         {func(v *api.View) { v.Admins[0] = false }, true},
		"a member's Sign":  {func(v *api.View) { v.Tree.Leaves[1].Sign = 4 }, true},
		"one more":         {func(v *api.View) { v.Tree.Leaves[7] = api.Leaf{Sign: 4, Seal: 4} }, true},
		"one more, half":   {func(v *api.View) { v.Tree.Leaves[7].Seal = 4 }, true},
		"one less":         {func(v *api.View) { v.Tree.Leaves[1] = api.Leaf{} }, true},
		"moved":            {func(v *api.View) { v.Tree.Leaves[2], v.Tree.Leaves[1] = v.Tree.Leaves[1], api.Leaf{} }, true},
		"changed places":   {func(v *api.View) { v.Tree.Leaves[0], v.Tree.Leaves[1] = v.Tree.Leaves[1], v.Tree.Leaves[0] }, true},
	} {
		w := v
		x.change(&w)
		if audit.Change(v, w) != x.want || audit.Change(w, v) != x.want {
			t.Errorf("%s: Change is %v", name, !x.want)
		}
		if audit.Change(w, w) {
			t.Errorf("%s: one view, and changed", name)
		}
	}
	if audit.Change(api.View{}, api.View{}) || !audit.Change(api.View{}, v) {
		t.Error("nothing")
	}
}

func TestP15_2NothingIsChanged(t *testing.T) {
	all, first := three(t)
	room := append(slices.Clone(all), first)
	kept := slices.Clone(room)
	audit.Agree(room[:2])
	audit.Keys(room[1])
	v, w := meet(), meet()
	audit.Change(v, w)
	if !slices.Equal(room, kept) || v != meet() || w != meet() {
		t.Error("changed")
	}
	for i, p := range all {
		if p.Leaf() != i || p.View() != all[0].View() || p.Export("audit") != all[0].Export("audit") {
			t.Errorf("%d has changed", i)
		}
	}
}
