package world_test

import (
	"encoding/hex"
	"slices"
	"testing"

	"curia/api"
	"curia/party"
	"curia/rows"
	"curia/sponge"
	"curia/view"
	"curia/wire"
	"curia/world"
)

// script makes acts by a rule of its own, so that a number tells all of them.
type script struct {
	world  *world.World
	number int
	place  int // who is to commit
	from   int
	ops    []api.Op // nil: nothing is planned
	plan   bool
	queue  []api.Act // what is to be delivered first
	leaves [8]api.Leaf
}

// below is the next number of the rule, below n.
func (s *script) below(n int) int {
	s.number = s.number * 48271 % 2147483647
	return s.number % n
}

// live is all places with a party.
func (s *script) live() []int {
	var l []int
	for i := range 8 {
		if s.world.Party(i) != nil {
			l = append(l, i)
		}
	}
	return l
}

// think plans operations, most of which can be done.
func (s *script) think() {
	live := s.live()
	if len(live) > 0 && s.below(8) != 0 {
		s.place = live[s.below(len(live))]
	} else {
		s.place = s.below(8)
	}
	p := s.world.Party(s.place)
	if p != nil {
		s.from = p.Leaf()
	} else {
		s.from = s.below(8)
	}
	s.ops, s.plan = nil, true
	for range 1 + s.below(3) {
		var o api.Op
		switch k := s.below(10); {
		case k < 5:
			o = api.Op{Kind: api.OpAdd, Leaf: s.leaves[s.below(8)]}
		case k == 5:
			o = api.Op{Kind: api.OpRemove, Who: s.below(8)}
		case k < 8:
			o = api.Op{Kind: api.OpPromote, Who: s.below(8)}
		case k == 8:
			o = api.Op{Kind: api.OpDemote, Who: s.below(8)}
		default:
			o = api.Op{Kind: api.OpLimit, K: 1 + s.below(3)}
		}
		fine := s.below(10) == 0
		if p != nil && !fine {
			_, _, _, err := view.Apply(p.View(), s.from, append(slices.Clone(s.ops), o))
			fine = err == api.OK
		}
		if fine {
			s.ops = append(s.ops, o)
		}
	}
}

// wanted is the post that a place waits for, or n.
func (s *script) wanted(who, n int) int {
	p := s.world.Party(who)
	for i, b := range s.world.Post() {
		if p != nil {
			if c, err := wire.ToCommit(b); err == api.OK && c.Epoch == p.View().Epoch && c.From != p.Leaf() {
				return i
			}
		} else if w, err := wire.ToWelcome(b); err == api.OK && w.View.Tree.Leaves[w.Leaf] == s.leaves[who] {
			n = i
		}
	}
	return n
}

// next is the next act.
func (s *script) next() api.Act {
	if len(s.queue) > 0 {
		a := s.queue[0]
		s.queue = s.queue[1:]
		return a
	}
	live := s.live()
	if !s.plan || s.below(16) == 0 {
		s.think()
	}
	k := s.below(14)
	a := api.Act{Who: s.below(8)}
	switch {
	case k < 5:
		a.Kind, a.From, a.Ops = api.ActVote, s.from, s.ops
		if s.below(8) == 0 {
			a.N = 1
		}
		a.Draw = s.below(3) - 1
		if len(live) > 0 && s.below(8) != 0 {
			a.Who = live[s.below(len(live))]
		}
	case k < 7:
		a.Kind, a.Who = api.ActCommit, s.place
		if s.below(5) != 0 {
			a.Ops = s.ops
		}
		a.Draw = s.below(1000)
	case k < 12:
		posts := len(s.world.Post())
		a.Kind, a.N = api.ActTake, s.below(posts+2)-1
		if s.below(8) != 0 {
			a.N = s.wanted(a.Who, a.N)
		}
	case k == 12:
		a.Kind = api.ActGive
		if posts := s.world.Post(); len(posts) > 0 {
			a.Bytes = posts[s.below(len(posts))]
			at := s.below(len(a.Bytes))
			a.Bytes[at] ^= 1 << s.below(8)
		}
	default:
		a.Kind, a.N = api.ActCrash, s.below(3)-1
	}
	return a
}

// deliver has all places take the posts from one on, most times.
func (s *script) deliver(from int) {
	if s.below(4) == 0 {
		return
	}
	for n := from; n < len(s.world.Post()); n++ {
		for who := range 8 {
			s.queue = append(s.queue, api.Act{Kind: api.ActTake, Who: who, N: n})
		}
	}
}

// told is all that a world tells, behind an act.
func told(w *world.World, err api.Errno) []byte {
	b := []byte{byte(err)}
	for i := range 8 {
		if p := w.Party(i); p != nil {
			h, x := view.Hash(p.View()), p.Export("audit")
			b = slices.Concat(b, rows.Num(p.Leaf()), h[:], x[:])
		} else {
			b = append(b, '-')
		}
		lines := w.Book(i)
		b = append(b, rows.Num(lines.Len())...)
		for epoch := range 20 {
			if h, ok := lines.Holds(epoch); ok {
				b = append(b, h[:]...)
			}
		}
	}
	posts := w.Post()
	b = append(b, rows.Num(len(posts))...)
	if len(posts) > 0 {
		h := sponge.Sum(posts[len(posts)-1])
		b = append(b, h[:]...)
	}
	return b
}

// newScript is a script at its beginning.
func newScript(number int) *script {
	s := &script{world: world.New(), number: number}
	for i := range s.leaves {
		s.leaves[i] = party.Leaf(world.Seed(i))
	}
	return s
}

// run does n acts, and looks at each answer and all that is told behind it.
func (s *script) run(n int, look func(a api.Act, err api.Errno)) {
	for range n {
		a := s.next()
		was := len(s.world.Post())
		err := s.world.Step(a)
		if a.Kind == api.ActCommit && err == api.OK {
			s.plan = false
			s.deliver(was)
		}
		look(a, err)
	}
}

// The sums of all that is told in scripts of many acts, worked out by the
// document apart from this program.
func TestP0_1KnownScripts(t *testing.T) {
	for number, want := range map[int]string{
		1: "c7a7e8d699b9707ac3ba14eb3e019e50ffbc126f2a71d1a070abd15d882fa4a9",
		2: "c9232ebba401015ba4f3594a77e58912a1e9a488b2bc2c3e8508494fd950a3fa",
		3: "65e2569dc5e83968d00f53c302c3ff1d7440709daeb782b7aee8c08f17955893",
		4: "8471d8ada7f8e22f029ccdd1becc039c52776e13d50bffabfd0050778b9ac0be",
		5: "fdf14e8d9c8f3832b0a31508e139b7fc1549f0e0756065e7cb21974ee392978d",
		6: "8d001d8546141c1b3ffff120d6344be98ce730829b4076b49f0b079cc4931492",
		7: "95661197e52241e71121bab11af229947d684ee75e1d1ded5215c105332f1f3f",
		8: "56954d19c9e039626707b27f741f69726b76558449516d65f323c7bd95a038d0",
	} {
		var sum api.Hash
		s := newScript(number)
		s.run(300, func(a api.Act, err api.Errno) {
			sum = sponge.Sum(sum[:], told(s.world, err))
		})
		if hex.EncodeToString(sum[:]) != want {
			t.Errorf("script %d: %x, want %s", number, sum, want)
		}
	}
}

func TestP0_1TheSameActsDoTheSame(t *testing.T) {
	var acts []api.Act
	var answers [][]byte
	s := newScript(77)
	s.run(200, func(a api.Act, err api.Errno) {
		acts = append(acts, a)
		answers = append(answers, told(s.world, err))
	})
	w := world.New()
	for i, a := range acts {
		if got := told(w, w.Step(a)); !slices.Equal(got, answers[i]) {
			t.Fatalf("act %d, %v: another answer", i, a)
		}
	}
	if w.Steps() != 200 || s.world.Steps() != 200 || !slices.EqualFunc(w.Post(), s.world.Post(), slices.Equal) {
		t.Error("another end")
	}
}
