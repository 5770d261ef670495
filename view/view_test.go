package view_test

import (
	"bytes"
	"encoding/hex"
	"math"
	"slices"
	"testing"

	"curia/api"
	"curia/power"
	"curia/rows"
	"curia/sponge"
	"curia/tree"
	"curia/view"
)

// key is a public key.
func key(n int) int { return power.Pow(api.G, n) }

// leaf is a member's keys, for each number others.
func leaf(n int) api.Leaf { return api.Leaf{Sign: key(2*n + 1), Seal: key(2*n + 2)} }

// group is a view with members at some leaves, some of them admins, and keys
// at all nodes between.
func group(k int, members, admins []int) api.View {
	v := api.View{Epoch: 5, K: k, Chain: api.Hash{1, 2, 3}}
	for _, i := range members {
		v.Tree.Leaves[i] = leaf(i)
	}
	for n := 1; n < 15; n += 2 {
		v.Tree.Nodes[n] = key(100 + n)
	}
	for _, i := range admins {
		v.Admins[i] = true
	}
	return v
}

// all is all leaves.
func all() []int { return []int{0, 1, 2, 3, 4, 5, 6, 7} }

// three is a group of three, two of them admins.
func three() api.View { return group(2, []int{0, 2, 5}, []int{0, 2}) }

func add(n int) api.Op     { return api.Op{Kind: api.OpAdd, Leaf: leaf(n)} }
func remove(i int) api.Op  { return api.Op{Kind: api.OpRemove, Who: i} }
func promote(i int) api.Op { return api.Op{Kind: api.OpPromote, Who: i} }
func demote(i int) api.Op  { return api.Op{Kind: api.OpDemote, Who: i} }
func limit(k int) api.Op   { return api.Op{Kind: api.OpLimit, K: k} }

// none is numbers that are no public keys.
func none() []int {
	return []int{0, 1, 2, -1, -4, api.P - 1, api.P, api.P + 4, math.MaxInt, math.MinInt}
}

// set is a set of leaves.
func set(l ...int) [8]bool {
	var b [8]bool
	for _, i := range l {
		b[i] = true
	}
	return b
}

// wrong is views that may not be.
func wrong() map[string]api.View {
	m := map[string]api.View{"nothing": {}}
	for name, change := range map[string]func(v *api.View){
		"epoch below 0":          func(v *api.View) { v.Epoch = -1 },
		"least epoch":            func(v *api.View) { v.Epoch = math.MinInt },
		"epoch above":            func(v *api.View) { v.Epoch = api.MaxEpoch + 1 },
		"greatest epoch":         func(v *api.View) { v.Epoch = math.MaxInt },
		"K of 0":                 func(v *api.View) { v.K = 0 },
		"K below 0":              func(v *api.View) { v.K = -1 },
		"K above the admins":     func(v *api.View) { v.K = 3 },
		"greatest K":             func(v *api.View) { v.K = math.MaxInt },
		"an admin is no member":  func(v *api.View) { v.Admins[7] = true },
		"another is no member":   func(v *api.View) { v.Admins[1] = true },
		"no admins":              func(v *api.View) { v.Admins, v.K = [8]bool{}, 0 },
		"no key at a leaf":       func(v *api.View) { v.Tree.Leaves[5].Seal = 0 },
		"no key to sign":         func(v *api.View) { v.Tree.Leaves[5].Sign = 1 },
		"half a member":          func(v *api.View) { v.Tree.Leaves[6].Sign = 4 },
		"no key at a node":       func(v *api.View) { v.Tree.Nodes[7] = 2 },
		"a key at a leaf's node": func(v *api.View) { v.Tree.Nodes[4] = 4 },
	} {
		v := three()
		change(&v)
		m[name] = v
	}
	return m
}

// refused tells of an answer that is not just an error.
func refused(t *testing.T, what string, want api.Errno, v api.View, from int, l []api.Op) {
	t.Helper()
	w, added, gone, err := view.Apply(v, from, l)
	if err != want {
		t.Errorf("%s: %v, want %v", what, err, want)
	}
	if err != api.OK && (w != (api.View{}) || added != set() || gone != set()) {
		t.Errorf("%s: more than an error is told", what)
	}
}

func TestP9_1Is(t *testing.T) {
	for i, v := range []api.View{three(), group(1, []int{0}, []int{0}), group(8, all(), all()), group(1, all(), []int{7}), group(1, all(), all())} {
		for _, epoch := range []int{0, 1, api.MaxEpoch - 1, api.MaxEpoch} {
			v.Epoch = epoch
			if !view.Is(v) {
				t.Errorf("%d, epoch %d: may not be", i, epoch)
			}
		}
	}
	for name, v := range wrong() {
		if view.Is(v) {
			t.Errorf("%s: may be", name)
		}
	}
}

func TestP9_1HashOfKnownViews(t *testing.T) {
	h := view.Hash(api.View{})
	if hex.EncodeToString(h[:]) != "11a46b81ce4cf784e2f94a50398888697e21f73ec11bbcb336dcea88016b46d1" {
		t.Errorf("nothing: %x", h)
	}
	v := api.View{Epoch: 7, K: 2, Admins: set(0, 3), Chain: sponge.Sum([]byte("c"))}
	v.Tree.Leaves[0], v.Tree.Leaves[3], v.Tree.Nodes[7] = api.Leaf{Sign: 4, Seal: 16}, api.Leaf{Sign: 64, Seal: 256}, 1024
	h = view.Hash(v)
	if hex.EncodeToString(h[:]) != "08451493c5ed0093d26e22dcb49b64bc4943ceb6bddd1565f7ae5c47f8675ad3" {
		t.Errorf("something: %x", h)
	}
}

func TestP9_1HashCountsEverything(t *testing.T) {
	v := three()
	h := tree.Hash(v.Tree)
	want := sponge.Derive(v.Chain, "view", rows.Num(5), rows.Num(2), []byte{1, 0, 1, 0, 0, 0, 0, 0}, h[:])
	if view.Hash(v) != want {
		t.Error("another sum than the document's")
	}
	others := map[string]api.View{}
	for name, change := range map[string]func(v *api.View){
		"Epoch": func(v *api.View) { v.Epoch++ },
		"K":     func(v *api.View) { v.K = 1 },
		"Admin": func(v *api.View) { v.Admins[7] = true },
		"Chain": func(v *api.View) { v.Chain[31]++ },
		"Tree":  func(v *api.View) { v.Tree.Nodes[13]++ },
		"minus": func(v *api.View) { v.Epoch = -5 },
	} {
		w := v
		change(&w)
		others[name] = w
	}
	for name, w := range others {
		if view.Hash(w) == want {
			t.Errorf("%s does not count", name)
		}
	}
}

func TestP9_1Ops(t *testing.T) {
	l := []api.Op{{Kind: 1, Leaf: api.Leaf{Sign: 4, Seal: 16}}, {Kind: 5, K: 3}, {Kind: -1, Who: -2, K: 300}}
	want := "0000000000000001000000000000000000000000000000000000000000000004000000000000001000000000000000050000000000000000000000000000000300000000000000000000000000000000fffffffffffffffffffffffffffffffe000000000000012c00000000000000000000000000000000"
	if b := view.Ops(l); hex.EncodeToString(b) != want {
		t.Errorf("%x", b)
	}
	if len(view.Ops(nil)) != 0 || len(view.Ops([]api.Op{})) != 0 || len(view.Ops(make([]api.Op, 1000))) != 40000 {
		t.Error("lengths")
	}
}

func TestP9_2NothingToDo(t *testing.T) {
	for _, v := range []api.View{three(), group(8, all(), all())} {
		for _, l := range [][]api.Op{nil, {}} {
			if w, added, gone, err := view.Apply(v, 2, l); w != v || added != set() || gone != set() || err != api.OK {
				t.Errorf("%v, %v", w, err)
			}
		}
	}
}

func TestP9_2Add(t *testing.T) {
	v := three()
	want := v
	want.Tree = tree.Put(want.Tree, 1, leaf(10))
	w, added, gone, err := view.Apply(v, 5, []api.Op{add(10)})
	if w != want || added != set(1) || gone != set() || err != api.OK {
		t.Errorf("one: %v %v %v %v", w, added, gone, err)
	}
	for _, i := range []int{3, 4, 6} {
		want.Tree = tree.Put(want.Tree, i, leaf(10+i))
	}
	w, added, gone, err = view.Apply(v, 0, []api.Op{add(10), add(13), add(14), add(16)})
	if w != want || added != set(1, 3, 4, 6) || gone != set() || err != api.OK {
		t.Errorf("four: %v %v %v %v", w, added, gone, err)
	}
}

func TestP9_2AddErrors(t *testing.T) {
	for _, y := range none() {
		for _, x := range []api.Leaf{{Sign: y, Seal: key(50)}, {Sign: key(50), Seal: y}, {Sign: y, Seal: y}} {
			refused(t, "no key", api.ErrOp, three(), 0, []api.Op{{Kind: api.OpAdd, Leaf: x}})
			refused(t, "no key, all full", api.ErrOp, group(1, all(), all()), 0, []api.Op{{Kind: api.OpAdd, Leaf: x}})
		}
	}
	for _, i := range []int{0, 2, 5} {
		x := api.Leaf{Sign: leaf(i).Sign, Seal: key(77)}
		refused(t, "a member's Sign", api.ErrOp, three(), 0, []api.Op{{Kind: api.OpAdd, Leaf: x}})
	}
	refused(t, "twice", api.ErrOp, three(), 0, []api.Op{add(10), add(10)})
	refused(t, "all full", api.ErrFull, group(1, all(), all()), 0, []api.Op{add(10)})
	refused(t, "all full, a member's Sign", api.ErrOp, group(1, all(), all()), 0, []api.Op{add(3)})
	refused(t, "one too many", api.ErrFull, group(1, all()[:7], all()[:7]), 0, []api.Op{add(10), add(11)})
	x := api.Leaf{Sign: key(70), Seal: leaf(2).Seal}
	refused(t, "a member's Seal is no bar", api.OK, three(), 0, []api.Op{{Kind: api.OpAdd, Leaf: x}})
	x = api.Leaf{Sign: leaf(2).Seal, Seal: leaf(2).Sign}
	refused(t, "nor are keys the other way", api.OK, three(), 0, []api.Op{{Kind: api.OpAdd, Leaf: x}})
}

func TestP9_2Remove(t *testing.T) {
	v := group(1, []int{0, 2, 5}, []int{0, 2})
	want := v
	want.Tree = tree.Put(want.Tree, 2, api.Leaf{})
	want.Admins[2] = false
	w, added, gone, err := view.Apply(v, 5, []api.Op{remove(2)})
	if w != want || added != set() || gone != set(2) || err != api.OK {
		t.Errorf("%v %v %v %v", w, added, gone, err)
	}
	for _, who := range []int{1, 7, 8, -1, 16, math.MaxInt, math.MinInt} {
		refused(t, "no member", api.ErrOp, v, 0, []api.Op{remove(who)})
	}
	refused(t, "itself", api.ErrOp, v, 2, []api.Op{remove(2)})
	refused(t, "twice", api.ErrOp, v, 0, []api.Op{remove(2), remove(2)})
	refused(t, "too few admins", api.ErrOp, three(), 0, []api.Op{remove(2)})
}

func TestP9_2AddedAndGone(t *testing.T) {
	v := group(1, []int{0, 1, 5}, []int{0, 1})
	for i, x := range []struct {
		l           []api.Op
		added, gone [8]bool
		leaves      map[int]api.Leaf
		admins      [8]bool
	}{
		{[]api.Op{remove(1), add(10)}, set(1), set(1), map[int]api.Leaf{1: leaf(10)}, set(0)},
		{[]api.Op{add(10), remove(2)}, set(), set(2), nil, set(0, 1)},
		{[]api.Op{add(10), remove(2), add(11)}, set(2), set(2), map[int]api.Leaf{2: leaf(11)}, set(0, 1)},
		{[]api.Op{remove(1), add(10), remove(1)}, set(), set(1), map[int]api.Leaf{1: {}}, set(0)},
		{[]api.Op{remove(1), add(1)}, set(1), set(1), map[int]api.Leaf{1: leaf(1)}, set(0)},
		{[]api.Op{remove(5), remove(1), add(10), add(11)}, set(1, 2), set(1, 5), map[int]api.Leaf{1: leaf(10), 2: leaf(11), 5: {}}, set(0)},
		{[]api.Op{add(10), promote(2), remove(2), add(11)}, set(2), set(2), map[int]api.Leaf{2: leaf(11)}, set(0, 1)},
		{[]api.Op{add(10), promote(2)}, set(2), set(), map[int]api.Leaf{2: leaf(10)}, set(0, 1, 2)},
	} {
		want := v
		want.Admins = x.admins
		for _, o := range x.l {
			// Whatever is put, the same nodes become nought.
			if o.Kind == api.OpRemove {
				want.Tree = tree.Put(want.Tree, o.Who, want.Tree.Leaves[o.Who])
			}
		}
		for at, l := range x.leaves {
			want.Tree = tree.Put(want.Tree, at, l)
		}
		w, added, gone, err := view.Apply(v, 0, x.l)
		if w != want || added != x.added || gone != x.gone || err != api.OK {
			t.Errorf("%d: %v %v %v %v, want %v", i, w, added, gone, err, want)
		}
	}
}

func TestP9_2PromoteDemoteLimit(t *testing.T) {
	v := three()
	for i, x := range []struct {
		l      []api.Op
		admins [8]bool
		k      int
	}{
		{[]api.Op{promote(5)}, set(0, 2, 5), 2},
		{[]api.Op{promote(5), demote(0)}, set(2, 5), 2},
		{[]api.Op{demote(0), promote(5)}, set(2, 5), 2},
		{[]api.Op{demote(0), promote(0)}, set(0, 2), 2},
		{[]api.Op{limit(1), demote(2)}, set(0), 1},
		{[]api.Op{demote(2), limit(1)}, set(0), 1},
		{[]api.Op{limit(8), limit(1)}, set(0, 2), 1},
		{[]api.Op{limit(2)}, set(0, 2), 2},
		{[]api.Op{limit(3), promote(5)}, set(0, 2, 5), 3},
		{[]api.Op{limit(1), demote(2), demote(0), promote(2)}, set(2), 1},
	} {
		want := v
		want.Admins, want.K = x.admins, x.k
		w, added, gone, err := view.Apply(v, 0, x.l)
		if w != want || added != set() || gone != set() || err != api.OK {
			t.Errorf("%d: %v %v", i, w, err)
		}
	}
}

func TestP9_2PromoteDemoteLimitErrors(t *testing.T) {
	v := three()
	for _, who := range []int{1, 7, 8, -1, 16, 1 << 40, math.MaxInt, math.MinInt} {
		refused(t, "promote no member", api.ErrOp, v, 0, []api.Op{promote(who)})
		refused(t, "demote no member", api.ErrOp, v, 0, []api.Op{demote(who)})
	}
	refused(t, "promote an admin", api.ErrOp, v, 0, []api.Op{promote(2)})
	refused(t, "promote twice", api.ErrOp, v, 0, []api.Op{promote(5), promote(5)})
	refused(t, "demote none", api.ErrOp, v, 0, []api.Op{demote(5)})
	refused(t, "demote twice", api.ErrOp, v, 0, []api.Op{limit(1), demote(2), demote(2)})
	refused(t, "demote one who is gone", api.ErrOp, v, 0, []api.Op{limit(1), remove(2), demote(2)})
	refused(t, "promote one who is gone", api.ErrOp, v, 0, []api.Op{remove(5), promote(5)})
	refused(t, "demote to too few", api.ErrOp, v, 0, []api.Op{demote(2)})
	refused(t, "demote the only one", api.ErrOp, group(1, []int{0}, []int{0}), 0, []api.Op{demote(0)})
	for _, k := range []int{0, -1, 9, 10, math.MaxInt, math.MinInt} {
		refused(t, "limit", api.ErrOp, v, 0, []api.Op{limit(k)})
		refused(t, "limit, then another", api.ErrOp, v, 0, []api.Op{limit(k), limit(1)})
	}
	for k := 3; k <= 8; k++ {
		refused(t, "limit above the admins", api.ErrOp, v, 0, []api.Op{limit(k)})
	}
	refused(t, "limit of all", api.OK, group(1, all(), all()), 0, []api.Op{limit(8)})
}

func TestP9_2ErrArg(t *testing.T) {
	for name, v := range wrong() {
		refused(t, name, api.ErrArg, v, 0, nil)
		refused(t, name, api.ErrArg, v, 99, []api.Op{promote(5)})
	}
	five := []api.Op{promote(5), demote(5), promote(5), demote(5)}
	refused(t, "four", api.OK, three(), 0, five)
	refused(t, "five", api.ErrArg, three(), 0, append(five, promote(5)))
	refused(t, "many", api.ErrArg, three(), 0, make([]api.Op, 10000))
	odd := []api.Op{
		{}, {Kind: -1}, {Kind: 6}, {Kind: math.MaxInt}, {Kind: math.MinInt},
		{Kind: api.OpAdd, Leaf: leaf(10), Who: 1}, {Kind: api.OpAdd, Leaf: leaf(10), K: 1},
		{Kind: api.OpLimit, K: 1, Who: 1}, {Kind: api.OpLimit, K: 1, Leaf: api.Leaf{Sign: 4}}, {Kind: api.OpLimit, K: 1, Leaf: api.Leaf{Seal: -4}},
	}
	for _, kind := range []int{api.OpRemove, api.OpPromote, api.OpDemote} {
		odd = append(odd, api.Op{Kind: kind, Who: 2, K: 1}, api.Op{Kind: kind, Who: 2, K: -1}, api.Op{Kind: kind, Who: 2, Leaf: api.Leaf{Sign: 1}}, api.Op{Kind: kind, Who: 2, Leaf: api.Leaf{Seal: 1}})
	}
	for _, o := range odd {
		refused(t, "odd", api.ErrArg, three(), 0, []api.Op{o})
		refused(t, "odd, by nobody", api.ErrArg, three(), 1, []api.Op{o})
		refused(t, "odd behind one that can not be", api.ErrArg, three(), 0, []api.Op{demote(7), o})
	}
}

func TestP9_2ErrFrom(t *testing.T) {
	for _, from := range []int{-1, 1, 3, 7, 8, 16, 1 << 40, math.MaxInt, math.MinInt} {
		refused(t, "nobody", api.ErrFrom, three(), from, nil)
		refused(t, "nobody, for what can not be", api.ErrFrom, three(), from, []api.Op{demote(7)})
	}
	for _, from := range []int{0, 2, 5} {
		refused(t, "a member", api.OK, three(), from, []api.Op{promote(5)})
	}
}

func TestP9_2InOrder(t *testing.T) {
	full := group(1, all(), all())
	refused(t, "full ahead of no member", api.ErrFull, full, 0, []api.Op{add(10), demote(9)})
	refused(t, "no member ahead of full", api.ErrOp, full, 0, []api.Op{demote(9), add(10)})
	refused(t, "room is made", api.OK, full, 0, []api.Op{remove(4), add(10)})
	refused(t, "room is made too late", api.ErrFull, full, 0, []api.Op{add(10), remove(4)})
}

func TestP9_3WhatMayBeStays(t *testing.T) {
	h := api.Hash{}
	v := three()
	fine := 0
	for round := range 3000 {
		h = sponge.Derive(h, "next")
		var l []api.Op
		for i := range int(h[0] % 5) {
			a, b := int(h[2+2*i]), int(h[3+2*i])
			o := []api.Op{add(b % 20), remove(b % 9), promote(b % 9), demote(b % 9), limit(b % 4)}[a%5]
			l = append(l, o)
		}
		from := int(h[1] % 9)
		w, added, gone, err := view.Apply(v, from, l)
		if err != api.OK {
			continue
		}
		fine++
		if !view.Is(w) || w.Epoch != v.Epoch || w.Chain != v.Chain {
			t.Fatalf("round %d: %v", round, w)
		}
		for i := range 8 {
			was, now := v.Tree.Leaves[i], w.Tree.Leaves[i]
			if was != now && !added[i] && !gone[i] || added[i] && now == (api.Leaf{}) || gone[i] && !added[i] && now != (api.Leaf{}) {
				t.Fatalf("round %d, leaf %d: %v to %v, added %v, gone %v", round, i, was, now, added[i], gone[i])
			}
		}
		v = w
	}
	if fine < 100 {
		t.Errorf("only %d lists could be done", fine)
	}
}

func TestP9_3NothingIsChanged(t *testing.T) {
	v := three()
	kept := v
	room := []api.Op{promote(5), add(10), limit(1), limit(2), limit(3), limit(4)}
	keptRoom := slices.Clone(room)
	view.Apply(v, 0, room[:2])
	view.Hash(v)
	view.Is(v)
	a := view.Ops(room[:2])
	b := view.Ops(room[:2])
	if v != kept || !slices.Equal(room, keptRoom) {
		t.Error("changed")
	}
	keptOps := bytes.Clone(b)
	a = a[:cap(a)]
	for i := range a {
		a[i] = 0xee
	}
	if !bytes.Equal(b, keptOps) || !bytes.Equal(view.Ops(room[:2]), keptOps) {
		t.Error("two answers share memory")
	}
}
