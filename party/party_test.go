package party_test

import (
	"encoding/hex"
	"reflect"
	"testing"

	"curia/api"
	"curia/ladder"
	"curia/pair"
	"curia/party"
	"curia/sponge"
	"curia/view"
	"curia/vote"
	"curia/wire"
)

// seed is a member's seed.
func seed(i int) api.Hash { return sponge.Sum([]byte("seed"), []byte{byte(i)}) }

// draw is a draw.
func draw(s string) api.Hash { return sponge.Sum([]byte(s)) }

// signer is the key by which a seed signs.
func signer(i int) *pair.Key { return pair.From(sponge.Derive(seed(i), "sign")) }

// text is a sum in hexadecimal.
func text(h api.Hash) string { return hex.EncodeToString(h[:]) }

func add(i int) api.Op     { return api.Op{Kind: api.OpAdd, Leaf: party.Leaf(seed(i))} }
func remove(i int) api.Op  { return api.Op{Kind: api.OpRemove, Who: i} }
func promote(i int) api.Op { return api.Op{Kind: api.OpPromote, Who: i} }
func demote(i int) api.Op  { return api.Op{Kind: api.OpDemote, Who: i} }
func limit(k int) api.Op   { return api.Op{Kind: api.OpLimit, K: k} }

// group is parties of one history, by their seeds' numbers.
type group struct {
	t       *testing.T
	parties map[int]*party.Party
	draws   int
}

// begin is a group of the seeds 0 to n - 1, at the leaves of these numbers.
func begin(t *testing.T, n int) *group {
	t.Helper()
	g := &group{t: t, parties: map[int]*party.Party{0: party.Create(seed(0))}}
	for i := 1; i < n; i++ {
		g.step(0, add(i))
	}
	return g
}

// votes is approvals of as many admins as there are among the parties.
func (g *group) votes(from int, l []api.Op) []api.Vote {
	g.t.Helper()
	var votes []api.Vote
	if len(l) == 0 {
		return nil
	}
	for leaf := range 8 {
		for _, p := range g.parties {
			if p.Leaf() != leaf || !p.View().Admins[leaf] {
				continue
			}
			x, err := vote.Approve(p.View(), leaf, p.Signer(), g.parties[from].Leaf(), l)
			if err != api.OK {
				g.t.Fatalf("Approve: %v", err)
			}
			votes = append(votes, x)
		}
	}
	return votes
}

// commit is a commit by a party that nobody has taken yet.
func (g *group) commit(by int, l ...api.Op) (api.Commit, []api.Welcome, *party.Party) {
	g.t.Helper()
	g.draws++
	c, w, next, err := g.parties[by].Commit(l, g.votes(by, l), sponge.Sum([]byte("draw"), []byte{byte(g.draws >> 8), byte(g.draws)}))
	if err != api.OK {
		g.t.Fatalf("Commit by %d of %v: %v", by, l, err)
	}
	return c, w, next
}

// step has a party commit, all others take it, and those join who were added.
func (g *group) step(by int, l ...api.Op) {
	g.t.Helper()
	c, w, next := g.commit(by, l...)
	g.take(by, c, w, next)
}

// take has all others take a commit, and those join who were added.
func (g *group) take(by int, c api.Commit, w []api.Welcome, next *party.Party) {
	g.t.Helper()
	after := map[int]*party.Party{by: next}
	for i, p := range g.parties {
		if i == by {
			continue
		}
		if q, err := p.Process(c); err != api.OK {
			g.t.Fatalf("Process by %d: %v", i, err)
		} else if q != nil {
			after[i] = q
		}
	}
	for _, x := range w {
		for i := range 40 {
			if party.Leaf(seed(i)) == x.View.Tree.Leaves[x.Leaf] {
				q, err := party.Join(seed(i), x)
				if err != api.OK {
					g.t.Fatalf("Join by %d: %v", i, err)
				}
				after[i] = q
			}
		}
	}
	g.parties = after
	g.agree()
}

// agree tells of parties that are not all of one view and one secret, or of
// members without a party.
func (g *group) agree() {
	g.t.Helper()
	var one *party.Party
	for _, p := range g.parties {
		if one == nil {
			one = p
		}
		if p.View() != one.View() || p.Export("agree") != one.Export("agree") || p.Export("") != one.Export("") {
			g.t.Fatalf("two views, or two secrets: %v, %v", p.View(), one.View())
		}
		if p.View().Tree.Leaves[p.Leaf()].Sign != p.Signer().Public() {
			g.t.Fatalf("at leaf %d is another one", p.Leaf())
		}
	}
	if !view.Is(one.View()) {
		g.t.Fatalf("a view that may not be: %v", one.View())
	}
	members := 0
	for _, x := range one.View().Tree.Leaves {
		if x != (api.Leaf{}) {
			members++
		}
	}
	if members != len(g.parties) {
		g.t.Fatalf("%d members, %d parties", members, len(g.parties))
	}
}

// alike tells whether two parties are of one view, secret, leaf and key.
func alike(a, b *party.Party) bool {
	return a.View() == b.View() && a.Leaf() == b.Leaf() && a.Export("x") == b.Export("x") && a.Signer().Secret() == b.Signer().Secret()
}

func TestP13_1Leaf(t *testing.T) {
	if x := party.Leaf(seed(0)); x != (api.Leaf{Sign: 2136739605, Seal: 114086646}) {
		t.Errorf("%v", x)
	}
	if x := party.Leaf(seed(1)); x != (api.Leaf{Sign: 1772984267, Seal: 764854553}) {
		t.Errorf("%v", x)
	}
	for i := range 30 {
		want := api.Leaf{Sign: signer(i).Public(), Seal: ladder.Node(sponge.Derive(seed(i), "leaf")).Public()}
		if x := party.Leaf(seed(i)); x != want {
			t.Errorf("%d: %v", i, x)
		}
	}
}

func TestP13_1Create(t *testing.T) {
	for i := range 10 {
		p := party.Create(seed(i))
		want := api.View{K: 1, Admins: [8]bool{true}}
		want.Tree.Leaves[0] = party.Leaf(seed(i))
		if p.View() != want || p.Leaf() != 0 || p.Signer().Secret() != signer(i).Secret() {
			t.Errorf("%d: %v", i, p.View())
		}
		epoch := sponge.Derive(sponge.Derive(seed(i), "leaf"), "first")
		for _, label := range []string{"", "x", "audit", "\xff\x00", string(make([]byte, 1000))} {
			if h := p.Export(label); h != sponge.Derive(epoch, "export", []byte(label)) {
				t.Errorf("%d: Export(%q) = %x", i, label, h)
			}
		}
	}
	if h := party.Create(seed(0)).Export("x"); text(h) != "4f637b3572d50e4a6c26cea453a22639bdc284292f48a90f8c28d2f2ee8d0e32" {
		t.Errorf("%x", h)
	}
}

// sumOf is the sum of a commit's or a welcome's bytes.
func sumOf(t *testing.T, b []byte, err api.Errno) string {
	t.Helper()
	if err != api.OK {
		t.Fatalf("%v", err)
	}
	return text(sponge.Sum(b))
}

// A story whose bytes and secrets are known: 0 adds 1; 1 adds 2, promotes
// itself and has both approve from now on; 2 removes 1.
func TestP13_5KnownStory(t *testing.T) {
	g := begin(t, 1)
	l := []api.Op{add(1)}
	c, w, next, err := g.parties[0].Commit(l, g.votes(0, l), draw("draw1"))
	b, errno := wire.Commit(c)
	if s := sumOf(t, b, errno); err != api.OK || len(b) != 185 || s != "c620e6dde61ebf040c37bb09e98ca2c3b168ce0d378668885e97cec3718e7570" {
		t.Fatalf("first commit: %d bytes, %s, %v", len(b), s, err)
	}
	b, errno = wire.Welcome(w[0])
	if s := sumOf(t, b, errno); len(w) != 1 || len(b) != 437 || s != "ba1bfb37578f1f5ce291be316f2a95e311e1dcab883ec64092865043d2b9c474" {
		t.Fatalf("its welcome: %d bytes, %s", len(b), s)
	}
	if text(next.Export("x")) != "9927ee20bb3b75ff5ff725064a224fea0164ea3079ce262eb376a2cae3c2af14" || text(next.Export("")) != "14b04ad2fac699bc1a496785121229119c00afc3731974e86c991d6048a1b415" {
		t.Fatalf("first secret: %x", next.Export("x"))
	}
	one, err := party.Join(seed(1), w[0])
	if err != api.OK {
		t.Fatalf("Join: %v", err)
	}
	g.parties = map[int]*party.Party{0: next, 1: one}
	l = []api.Op{add(2), promote(1), limit(2)}
	c, w, next, err = one.Commit(l, g.votes(1, l), draw("draw2"))
	b, errno = wire.Commit(c)
	if s := sumOf(t, b, errno); err != api.OK || s != "45cfa005356e286e132ed433ddfffb210491df45eb52c451d9f75086efccab62" {
		t.Fatalf("second commit: %s, %v", s, err)
	}
	zero, err := g.parties[0].Process(c)
	if err != api.OK {
		t.Fatalf("Process: %v", err)
	}
	two, err := party.Join(seed(2), w[0])
	if err != api.OK {
		t.Fatalf("Join: %v", err)
	}
	g.parties = map[int]*party.Party{0: zero, 1: next, 2: two}
	g.agree()
	if text(two.Export("x")) != "10fadfd8637284ca091cbf42525a378a33e5476cff10a09c7f676797271b306d" {
		t.Fatalf("second secret: %x", two.Export("x"))
	}
	l = []api.Op{remove(1), limit(1)}
	c, w, next, err = two.Commit(l, g.votes(2, l), draw("draw3"))
	b, errno = wire.Commit(c)
	if s := sumOf(t, b, errno); err != api.OK || len(w) != 0 || s != "1f9fd4cf7c0ead91c38bece0a5a928aa864d563168a6a247ff003e50a9a62609" {
		t.Fatalf("third commit: %s, %v", s, err)
	}
	zero, err = zero.Process(c)
	if err != api.OK || text(zero.Export("x")) != "5a1958e85aa7177ed56df866de663b012c469f144614df04885094baed22024e" || text(view.Hash(zero.View())) != "ff138fbf5d403960b49811077e2ef5c9dafa8f7b324a3754aacb25775a5bcf3f" {
		t.Fatalf("third secret: %v", err)
	}
	if gone, err := g.parties[1].Process(c); gone != nil || err != api.OK {
		t.Errorf("who is removed: %v, %v", gone, err)
	}
	g.parties = map[int]*party.Party{0: zero, 2: next}
	g.agree()
}

func TestP13_5NilParty(t *testing.T) {
	var p *party.Party
	if p.View() != (api.View{}) || p.Leaf() != 0 || p.Signer() != nil || p.Export("x") != (api.Hash{}) || p.Copy() != nil {
		t.Error("a nil Party has something")
	}
	c, w, next, err := p.Commit([]api.Op{add(1)}, nil, draw("d"))
	if err != api.ErrState || next != nil || len(w) != 0 || !reflect.DeepEqual(c, api.Commit{}) {
		t.Errorf("Commit: %v", err)
	}
	if next, err := p.Process(api.Commit{}); err != api.ErrState || next != nil {
		t.Errorf("Process: %v", err)
	}
}

func TestP13_5CopiesAreParted(t *testing.T) {
	g := begin(t, 3)
	for i, p := range g.parties {
		q := p.Copy()
		if q == p || !alike(p, q) {
			t.Errorf("%d: the copy is another one", i)
		}
		c, _, next, err := q.Commit(nil, nil, draw("d"))
		d, _, same, also := p.Commit(nil, nil, draw("d"))
		if err != api.OK || also != api.OK || !wire.Same(c, d) || !alike(next, same) {
			t.Errorf("%d: the copy commits otherwise", i)
		}
	}
}

// Steps of all kinds by all members: whoever takes one comes to the same.
func TestP13_5ManySteps(t *testing.T) {
	g := begin(t, 8)
	for i := range 8 {
		g.step(i)
	}
	for i := range 8 {
		g.step((i * 3) % 8)
	}
	g.step(3, remove(0+1), remove(6), promote(4))
	g.step(4, add(20))
	g.step(5)
	g.step(20, add(21), promote(1), limit(3))
	g.step(21, demote(0), limit(2))
	g.step(0, remove(4), add(22), promote(4))
	g.step(22, remove(7), remove(5), remove(3))
	g.step(2)
	g.step(0, add(23), add(24))
	g.step(23)
	g.step(24, remove(3), add(25))
	if g.parties[25].Leaf() != 3 || g.parties[25].View().Epoch != 7+8+8+11 {
		t.Errorf("leaf %d, epoch %d", g.parties[25].Leaf(), g.parties[25].View().Epoch)
	}
}

func TestP13_5RandomSteps(t *testing.T) {
	g := begin(t, 4)
	h := draw("random")
	fine := 0
	for n := 30; n < 39; {
		h = ladder.Next(h)
		var l []api.Op
		for i := range int(h[0] % 4) {
			who := int(h[3+2*i] % 8)
			l = append(l, []api.Op{add(n), remove(who), promote(who), demote(who), limit(1)}[h[2+2*i]%5])
		}
		var by int
		for i := range 40 {
			if p := g.parties[i]; p != nil && p.Leaf() <= int(h[1]%8) {
				by = i
			}
		}
		if g.parties[by] == nil {
			continue
		}
		if _, _, _, err := view.Apply(g.parties[by].View(), g.parties[by].Leaf(), l); err != api.OK {
			continue
		}
		for _, o := range l {
			if o.Kind == api.OpAdd {
				n++
			}
		}
		g.step(by, l...)
		fine++
	}
	if fine < 20 {
		t.Errorf("only %d steps", fine)
	}
}

func TestW1ZeroParty(t *testing.T) {
	p := new(party.Party)
	p.View()
	p.Leaf()
	p.Signer()
	p.Export("x")
	p.Copy()
	p.Commit(nil, nil, api.Hash{})
	p.Commit([]api.Op{add(1)}, nil, api.Hash{})
	p.Process(api.Commit{})
	p.Process(api.Commit{From: 1})
}
