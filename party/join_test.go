package party_test

import (
	"bytes"
	"math"
	"testing"

	"curia/api"
	"curia/ladder"
	"curia/party"
	"curia/power"
	"curia/seal"
	"curia/sponge"
	"curia/tree"
	"curia/view"
)

// hello is a welcome that a test makes up: of seed `seed` at a leaf, by a
// committer whose seed's number is its leaf's.
type hello struct {
	seed, leaf, from int
	view             api.View
	joint, secret    api.Hash
}

// meet is a welcome that is as it has to be: for seed 1 at a leaf, by the one
// admin at another leaf; at a third leaf there is a member as well.
func meet(leaf, from, third int) hello {
	h := hello{seed: 1, leaf: leaf, from: from, joint: draw("joint"), secret: draw("secret")}
	h.view = api.View{Epoch: 7, K: 1, Chain: draw("chain")}
	h.view.Admins[from] = true
	for _, i := range []int{from, third} {
		h.view.Tree.Leaves[i] = party.Leaf(seed(i))
	}
	h.view.Tree.Leaves[leaf] = party.Leaf(seed(1))
	s := h.secret
	for i := h.place(); i < 3; i++ {
		h.view.Tree.Nodes[tree.Path(leaf)[i]] = ladder.Node(s).Public()
		s = ladder.Next(s)
	}
	return h
}

// place is the place of its path where it meets the committer's.
func (h hello) place() int {
	for i, node := range tree.Path(h.leaf) {
		if tree.Under(node, h.from) {
			return i
		}
	}
	return 3
}

// tag is its tag.
func (h hello) tag() api.Hash {
	x := view.Hash(h.view)
	return sponge.Derive(sponge.Derive(h.joint, "epoch", x[:]), "tag")
}

// boxed is bytes in a box for it.
func (h hello) boxed(p []byte) []byte {
	b, _ := seal.Seal(party.Leaf(seed(h.seed)).Seal, draw("box"), p)
	return b
}

// plain is what its box has.
func (h hello) plain() []byte { return append(h.joint[:], h.secret[:]...) }

// welcome is it, as a welcome.
func (h hello) welcome() api.Welcome {
	return api.Welcome{Leaf: h.leaf, From: h.from, View: h.view, Box: h.boxed(h.plain()), Tag: h.tag()}
}

// refusedJoin tells of a Join that does not end with just an error.
func refusedJoin(t *testing.T, what string, by int, w api.Welcome, want api.Errno) {
	t.Helper()
	if p, err := party.Join(seed(by), w); err != want || p != nil {
		t.Errorf("%s: %v, want %v", what, err, want)
	}
}

func TestP13_4Join(t *testing.T) {
	for leaf := range 8 {
		for from := range 8 {
			if leaf == from {
				continue
			}
			third := 0
			for third == leaf || third == from {
				third++
			}
			h := meet(leaf, from, third)
			p, err := party.Join(seed(1), h.welcome())
			if err != api.OK {
				t.Fatalf("leaf %d, from %d: %v", leaf, from, err)
			}
			x := view.Hash(h.view)
			epoch := sponge.Derive(h.joint, "epoch", x[:])
			if p.View() != h.view || p.Leaf() != leaf || p.Signer().Secret() != signer(1).Secret() || p.Export("e") != sponge.Derive(epoch, "export", []byte("e")) {
				t.Errorf("leaf %d, from %d: %v", leaf, from, p.View())
			}
			c, _, _, err := p.Commit(nil, nil, draw("d"))
			s := byTheBook(t, h.view, sponge.Derive(epoch, "init"), leaf, signer(1), nil, nil, draw("d"))
			if err != api.OK || c.Tag != s.commit.Tag || c.Sig != s.commit.Sig {
				t.Errorf("leaf %d, from %d: it commits otherwise, %v", leaf, from, err)
			}
		}
	}
}

func TestP13_4WelcomesThatDoNotFit(t *testing.T) {
	for name, change := range map[string]func(w *api.Welcome){
		"view of nothing":       func(w *api.Welcome) { w.View = api.View{} },
		"view without admins":   func(w *api.Welcome) { w.View.Admins = [8]bool{} },
		"view's epoch":          func(w *api.Welcome) { w.View.Epoch = api.MaxEpoch + 1 },
		"view's K":              func(w *api.Welcome) { w.View.K = 0 },
		"view's node":           func(w *api.Welcome) { w.View.Tree.Nodes[13] = 1 },
		"Leaf -1":               func(w *api.Welcome) { w.Leaf = -1 },
		"Leaf 8":                func(w *api.Welcome) { w.Leaf = 8 },
		"greatest Leaf":         func(w *api.Welcome) { w.Leaf = math.MaxInt },
		"least Leaf":            func(w *api.Welcome) { w.Leaf = math.MinInt },
		"another's leaf":        func(w *api.Welcome) { w.Leaf = 2 },
		"nobody's leaf":         func(w *api.Welcome) { w.Leaf = 3 },
		"another Sign there":    func(w *api.Welcome) { w.View.Tree.Leaves[5].Sign = 4 },
		"another Seal there":    func(w *api.Welcome) { w.View.Tree.Leaves[5].Seal = 4 },
		"From nobody":           func(w *api.Welcome) { w.From = 3 },
		"From -1":               func(w *api.Welcome) { w.From = -1 },
		"From 8":                func(w *api.Welcome) { w.From = 8 },
		"greatest From":         func(w *api.Welcome) { w.From = math.MaxInt },
		"least From":            func(w *api.Welcome) { w.From = math.MinInt },
		"From itself":           func(w *api.Welcome) { w.From = 5 },
		"a key at node 9":       func(w *api.Welcome) { w.View.Tree.Nodes[9] = power.Pow(4, 9) },
		"a key at node 11":      func(w *api.Welcome) { w.View.Tree.Nodes[11] = power.Pow(4, 9) },
		"another key at node 7": func(w *api.Welcome) { w.View.Tree.Nodes[7] = power.Pow(4, 9) },
		"no key at node 7":      func(w *api.Welcome) { w.View.Tree.Nodes[7] = 0 },
	} {
		h := meet(5, 0, 2)
		w := h.welcome()
		change(&w)
		h.view = w.View
		w.Tag = h.tag()
		refusedJoin(t, name, 1, w, api.ErrKey)
		if name != "another key at node 7" && name != "no key at node 7" {
			w.Box = []byte("no box")
			w.Tag = api.Hash{}
			refusedJoin(t, name+", and no box", 1, w, api.ErrKey)
		}
	}
	refusedJoin(t, "for another seed", 2, meet(5, 0, 2).welcome(), api.ErrKey)
	refusedJoin(t, "nothing", 1, api.Welcome{}, api.ErrKey)
	w := meet(5, 0, 2).welcome()
	w.View.Tree.Nodes[1], w.View.Tree.Nodes[3], w.View.Tree.Nodes[13] = power.Pow(4, 9), power.Pow(4, 10), power.Pow(4, 11)
	h := meet(5, 0, 2)
	h.view = w.View
	w.Tag = h.tag()
	if p, err := party.Join(seed(1), w); err != api.OK || p.View() != w.View {
		t.Errorf("keys at other nodes: %v", err)
	}
}

func TestP13_4BoxesAndSecrets(t *testing.T) {
	for _, at := range [][2]int{{5, 0}, {1, 0}, {2, 0}, {6, 7}, {3, 7}} {
		h := meet(at[0], at[1], 4)
		good := h.welcome()
		for name, b := range map[string][]byte{
			"none":         nil,
			"short":        good.Box[:11],
			"cut":          good.Box[:len(good.Box)-1],
			"long":         append(bytes.Clone(good.Box), make([]byte, 300)...),
			"one more":     append(bytes.Clone(good.Box), 0),
			"another tag":  append(append(bytes.Clone(good.Box[:4]), 1, 2, 3, 4, 5, 6, 7, 8), good.Box[12:]...),
			"for somebody": hello{seed: 2}.boxed(h.plain()),
		} {
			w := good
			w.Box = b
			refusedJoin(t, "box, "+name, 1, w, api.ErrSeal)
		}
		for _, n := range []int{0, 1, 31, 32, 63, 65, 96, 200} {
			w := good
			w.Box = h.boxed(append(h.plain(), make([]byte, 200)...)[:n])
			w.Tag = api.Hash{}
			refusedJoin(t, "box of a wrong length", 1, w, api.ErrKey)
		}
		other := h
		other.secret = draw("other")
		w := good
		w.Box = other.boxed(other.plain())
		refusedJoin(t, "another secret", 1, w, api.ErrKey)
		for i := h.place(); i < 3; i++ {
			other := h
			other.view.Tree.Nodes[tree.Path(h.leaf)[i]] = power.Pow(4, 77)
			refusedJoin(t, "another key above", 1, other.welcome(), api.ErrKey)
			other.view.Tree.Nodes[tree.Path(h.leaf)[i]] = 0
			refusedJoin(t, "no key above", 1, other.welcome(), api.ErrKey)
		}
		other = h
		other.joint = draw("other")
		w = good
		w.Box = other.boxed(other.plain())
		refusedJoin(t, "another joint secret", 1, w, api.ErrTag)
		w = good
		w.Tag[31]++
		refusedJoin(t, "another tag", 1, w, api.ErrTag)
		w = good
		w.View.Chain[0]++
		refusedJoin(t, "another history", 1, w, api.ErrTag)
		w = good
		w.View.Epoch++
		refusedJoin(t, "another epoch", 1, w, api.ErrTag)
	}
}

func TestP13_5JoinKeepsNothing(t *testing.T) {
	h := meet(5, 0, 2)
	w := h.welcome()
	w.Box = append(w.Box, 9, 9, 9)[:len(w.Box)]
	kept := bytes.Clone(w.Box[:len(w.Box)+3])
	p, err := party.Join(seed(1), w)
	q, also := party.Join(seed(1), w)
	if err != api.OK || also != api.OK || !bytes.Equal(w.Box[:len(w.Box)+3], kept) {
		t.Fatalf("changed: %v, %v", err, also)
	}
	spoilBytes(w.Box)
	if p == q || !alike(p, q) || p.View() != h.view {
		t.Error("kept")
	}
}

// Who has joined takes what comes next: it has the secrets of all nodes above it.
func TestP13_4WhoJoinedGoesOn(t *testing.T) {
	for by := range 8 {
		g := begin(t, 8)
		for i := range 8 {
			g.step(i)
		}
		gone := (by + 1) % 8
		if gone == 0 {
			gone = 1
		}
		if by == gone {
			continue
		}
		g.step(by, remove(gone), add(20))
		for i := range 8 {
			if i != gone {
				g.step(i)
			}
		}
		g.step(20)
	}
}
