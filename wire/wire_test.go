package wire_test

import (
	"bytes"
	"encoding/binary"
	"encoding/hex"
	"math"
	"reflect"
	"slices"
	"testing"

	"curia/api"
	"curia/power"
	"curia/sponge"
	"curia/wire"
)

// num is a number in eight bytes, by the library.
func num(n int) []byte { return binary.BigEndian.AppendUint64(nil, uint64(n)) }

// body is the document's Body, of whatever commit.
func body(c api.Commit) []byte {
	b := slices.Concat(num(c.Epoch), num(c.From), num(len(c.Ops)))
	for _, o := range c.Ops {
		b = slices.Concat(b, num(o.Kind), num(o.Who), num(o.K), num(o.Leaf.Sign), num(o.Leaf.Seal))
	}
	b = append(b, num(len(c.Votes))...)
	for _, x := range c.Votes {
		b = slices.Concat(b, num(x.Admin), num(x.Sig.E), num(x.Sig.S))
	}
	b = slices.Concat(b, num(c.Seal), num(c.Path[0]), num(c.Path[1]), num(c.Path[2]), num(len(c.Boxes)))
	for _, p := range c.Boxes {
		b = slices.Concat(b, num(len(p)), p)
	}
	return b
}

// commit is the document's bytes of whatever commit.
func commit(c api.Commit) []byte {
	return slices.Concat([]byte{1}, body(c), c.Tag[:], num(c.Sig.E), num(c.Sig.S))
}

// welcome is the document's bytes of whatever welcome.
func welcome(w api.Welcome) []byte {
	b := slices.Concat([]byte{2}, num(w.Leaf), num(w.From), num(w.View.Epoch), num(w.View.K))
	for _, admin := range w.View.Admins {
		if admin {
			b = append(b, 1)
		} else {
			b = append(b, 0)
		}
	}
	b = append(b, w.View.Chain[:]...)
	for _, x := range w.View.Tree.Leaves {
		b = slices.Concat(b, num(x.Sign), num(x.Seal))
	}
	for _, y := range w.View.Tree.Nodes {
		b = append(b, num(y)...)
	}
	return slices.Concat(b, num(len(w.Box)), w.Box, w.Tag[:])
}

// row is n bytes.
func row(n int) []byte { return bytes.Repeat([]byte{byte(n), 3}, n)[:n] }

// some is a commit with some of everything.
func some() api.Commit {
	return api.Commit{
		Epoch: 9, From: 3,
		Ops:   []api.Op{{Kind: 1, Leaf: api.Leaf{Sign: 4, Seal: 16}}, {Kind: 2, Who: 7}, {Kind: 5, K: 2}},
		Votes: []api.Vote{{Admin: 0, Sig: api.Sig{E: 1, S: 2}}, {Admin: 5, Sig: api.Sig{E: 3, S: 4}}},
		Seal:  5, Path: [3]int{6, 7, 8},
		Boxes: [][]byte{row(44), nil, row(1)},
		Tag:   sponge.Sum([]byte("tag")), Sig: api.Sig{E: 10, S: 11},
	}
}

// most is a commit with the most of everything.
func most() api.Commit {
	c := api.Commit{Epoch: api.MaxEpoch, From: 7, Seal: api.P, Path: [3]int{api.P, api.P, api.P}, Sig: api.Sig{E: api.Q - 1, S: api.Q - 1}}
	for range 4 {
		c.Ops = append(c.Ops, api.Op{Kind: 1 << 40, Who: 1 << 40, K: 1 << 40, Leaf: api.Leaf{Sign: 1 << 40, Seal: 1 << 40}})
	}
	for range 8 {
		c.Votes = append(c.Votes, api.Vote{Admin: 7, Sig: api.Sig{E: api.Q - 1, S: api.Q - 1}})
	}
	for range 16 {
		c.Boxes = append(c.Boxes, row(300))
	}
	return c
}

// hello is a welcome.
func hello() api.Welcome {
	w := api.Welcome{Leaf: 6, From: 2, Box: row(76), Tag: sponge.Sum([]byte("tag"))}
	w.View = api.View{Epoch: 4, K: 2, Admins: [8]bool{true, false, true, false, false, false, false, true}, Chain: sponge.Sum([]byte("chain"))}
	for _, i := range []int{0, 2, 6, 7} {
		w.View.Tree.Leaves[i] = api.Leaf{Sign: power.Pow(4, i+1), Seal: power.Pow(4, i+20)}
	}
	w.View.Tree.Nodes[7], w.View.Tree.Nodes[3] = power.Pow(4, 40), power.Pow(4, 41)
	return w
}

// oddCommits is commits each of which may not be, for one thing alone.
func oddCommits() map[string]api.Commit {
	m := map[string]api.Commit{}
	for name, change := range map[string]func(c *api.Commit, n int){
		"Epoch":  func(c *api.Commit, n int) { c.Epoch = n },
		"From":   func(c *api.Commit, n int) { c.From = n },
		"Kind":   func(c *api.Commit, n int) { c.Ops[1].Kind = n },
		"Who":    func(c *api.Commit, n int) { c.Ops[2].Who = n },
		"K":      func(c *api.Commit, n int) { c.Ops[0].K = n },
		"OpSign": func(c *api.Commit, n int) { c.Ops[1].Leaf.Sign = n },
		"OpSeal": func(c *api.Commit, n int) { c.Ops[0].Leaf.Seal = n },
		"Admin":  func(c *api.Commit, n int) { c.Votes[1].Admin = n },
		"VoteE":  func(c *api.Commit, n int) { c.Votes[0].Sig.E = n },
		"VoteS":  func(c *api.Commit, n int) { c.Votes[1].Sig.S = n },
		"Seal":   func(c *api.Commit, n int) { c.Seal = n },
		"Path 0": func(c *api.Commit, n int) { c.Path[0] = n },
		"Path 1": func(c *api.Commit, n int) { c.Path[1] = n },
		"Path 2": func(c *api.Commit, n int) { c.Path[2] = n },
		"SigE":   func(c *api.Commit, n int) { c.Sig.E = n },
		"SigS":   func(c *api.Commit, n int) { c.Sig.S = n },
	} {
		top := map[string]int{"Epoch": api.MaxEpoch, "From": 7, "Admin": 7, "VoteE": api.Q - 1, "VoteS": api.Q - 1, "SigE": api.Q - 1, "SigS": api.Q - 1, "Seal": api.P, "Path 0": api.P, "Path 1": api.P, "Path 2": api.P}[name]
		if top == 0 {
			top = 1 << 40
		}
		for what, n := range map[string]int{" -1": -1, " one above": top + 1, " greatest": math.MaxInt, " least": math.MinInt} {
			c := some()
			change(&c, n)
			m[name+what] = c
		}
	}
	c := most()
	c.Ops = append(c.Ops, api.Op{})
	m["five Ops"] = c
	c = most()
	c.Votes = append(c.Votes, api.Vote{})
	m["nine Votes"] = c
	c = most()
	c.Boxes = append(c.Boxes, nil)
	m["seventeen Boxes"] = c
	c = some()
	c.Boxes[1] = row(301)
	m["a long Box"] = c
	c = some()
	c.Ops, c.Boxes = make([]api.Op, 1000), make([][]byte, 1000)
	m["many"] = c
	return m
}

// oddWelcomes is welcomes each of which may not be, for one thing alone.
func oddWelcomes() map[string]api.Welcome {
	m := map[string]api.Welcome{}
	for name, change := range map[string]func(w *api.Welcome){
		"Leaf 8":            func(w *api.Welcome) { w.Leaf = 8 },
		"Leaf -1":           func(w *api.Welcome) { w.Leaf = -1 },
		"greatest Leaf":     func(w *api.Welcome) { w.Leaf = math.MaxInt },
		"From 8":            func(w *api.Welcome) { w.From = 8 },
		"From -1":           func(w *api.Welcome) { w.From = -1 },
		"least From":        func(w *api.Welcome) { w.From = math.MinInt },
		"nothing in view":   func(w *api.Welcome) { w.View = api.View{} },
		"K too great":       func(w *api.Welcome) { w.View.K = 4 },
		"K -1":              func(w *api.Welcome) { w.View.K = -1 },
		"Epoch -1":          func(w *api.Welcome) { w.View.Epoch = -1 },
		"Epoch above":       func(w *api.Welcome) { w.View.Epoch = api.MaxEpoch + 1 },
		"admin, no member":  func(w *api.Welcome) { w.View.Admins[1] = true },
		"no key at a leaf":  func(w *api.Welcome) { w.View.Tree.Leaves[2].Seal = 2 },
		"no key at a node":  func(w *api.Welcome) { w.View.Tree.Nodes[3] = 1 },
		"a key where it is": func(w *api.Welcome) { w.View.Tree.Nodes[4] = 4 },
		"a long Box":        func(w *api.Welcome) { w.Box = row(301) },
		"a longer Box":      func(w *api.Welcome) { w.Box = row(70000) },
	} {
		w := hello()
		change(&w)
		m[name] = w
	}
	return m
}

func TestP12_1Body(t *testing.T) {
	b := wire.Body(some())
	if h := sponge.Sum(b); len(b) != 309 || hex.EncodeToString(h[:]) != "67f2ab2932df8fc2aeb25e0001f0f6117eba8d322356bdbbc846db636e9a646b" {
		t.Errorf("%d bytes, %x", len(b), h)
	}
	l := map[string]api.Commit{"some": some(), "most": most(), "nothing": {}}
	for name, c := range oddCommits() {
		l[name] = c
	}
	for name, c := range l {
		if !bytes.Equal(wire.Body(c), body(c)) {
			t.Errorf("%s: %x, want %x", name, wire.Body(c), body(c))
		}
	}
}

func TestP12_1Commit(t *testing.T) {
	for i, c := range []api.Commit{some(), most(), {}} {
		if b, err := wire.Commit(c); err != api.OK || !bytes.Equal(b, commit(c)) {
			t.Errorf("%d: %x, %v", i, b, err)
		}
		if got, err := wire.ToCommit(commit(c)); err != api.OK || !wire.Same(got, c) {
			t.Errorf("%d, read: %v, %v", i, got, err)
		}
	}
}

func TestP12_1CommitsThatMayNotBe(t *testing.T) {
	for name, c := range oddCommits() {
		if b, err := wire.Commit(c); err != api.ErrArg || len(b) != 0 {
			t.Errorf("%s: %d bytes, %v", name, len(b), err)
		}
		if got, err := wire.ToCommit(commit(c)); err != api.ErrForm || !reflect.DeepEqual(got, api.Commit{}) {
			t.Errorf("%s, read: %v, %v", name, got, err)
		}
	}
}

func TestP12_1EachNumberAtItsEdges(t *testing.T) {
	for name, change := range map[string]func(c *api.Commit){
		"least":          func(c *api.Commit) { c.Epoch, c.From, c.Seal, c.Path = 0, 0, 0, [3]int{} },
		"votes of 0":     func(c *api.Commit) { c.Votes = make([]api.Vote, 8) },
		"ops of 0":       func(c *api.Commit) { c.Ops = make([]api.Op, 4) },
		"boxes of 0":     func(c *api.Commit) { c.Boxes = make([][]byte, 16) },
		"empty boxes":    func(c *api.Commit) { c.Boxes = [][]byte{{}, {}} },
		"a vote at edge": func(c *api.Commit) { c.Votes[0] = api.Vote{Admin: 7, Sig: api.Sig{E: api.Q - 1, S: 0}} },
		"path at edge":   func(c *api.Commit) { c.Path = [3]int{0, api.P, 1}; c.Seal = api.P },
		"a box of 300":   func(c *api.Commit) { c.Boxes = [][]byte{row(300), row(299), row(256), row(255)} },
	} {
		c := some()
		change(&c)
		b, err := wire.Commit(c)
		got, back := wire.ToCommit(b)
		if err != api.OK || back != api.OK || !bytes.Equal(b, commit(c)) || !wire.Same(got, c) {
			t.Errorf("%s: %v, %v", name, err, back)
		}
	}
}

// notForm tells of bytes that are read, though they are none of the kind.
func notForm(t *testing.T, what string, b []byte) {
	t.Helper()
	if c, err := wire.ToCommit(b); err != api.ErrForm || !reflect.DeepEqual(c, api.Commit{}) {
		t.Errorf("%s, as a commit: %v, %v", what, c, err)
	}
	if w, err := wire.ToWelcome(b); err != api.ErrForm || !reflect.DeepEqual(w, api.Welcome{}) {
		t.Errorf("%s, as a welcome: %v, %v", what, w, err)
	}
}

func TestP12_1And2OtherBytes(t *testing.T) {
	c, w := commit(some()), welcome(hello())
	for n := range c {
		notForm(t, "a commit's beginning", c[:n])
	}
	for n := range w {
		notForm(t, "a welcome's beginning", w[:n])
	}
	notForm(t, "a commit, and a byte", append(bytes.Clone(c), 0))
	notForm(t, "a welcome, and a byte", append(bytes.Clone(w), 0))
	notForm(t, "nothing", nil)
	for kind := range 256 {
		if kind != 1 {
			notForm(t, "another first byte of a commit", append([]byte{byte(kind)}, c[1:]...))
		}
		if kind != 2 {
			notForm(t, "another first byte of a welcome", append([]byte{byte(kind)}, w[1:]...))
		}
	}
	for _, first := range []byte{0, 1, 2, 255} {
		for _, fill := range []byte{0, 1, 0x7f, 0xff} {
			for _, n := range []int{0, 1, 8, 24, 100, 700, 5000} {
				b := append([]byte{first}, bytes.Repeat([]byte{fill}, n)...)
				notForm(t, "one byte many times", b)
			}
		}
	}
}

func TestP12_1And2WrongCounts(t *testing.T) {
	c, w := commit(some()), welcome(hello())
	// Where counts and lengths stand in these two.
	for _, at := range []int{17, 25 + 120, 33 + 120 + 48 + 32, 41 + 120 + 48 + 32} {
		for _, n := range []int{-1, 0, 1, 2, 3, 4, 5, 8, 9, 16, 17, 44, 300, 301, 1 << 31, 1 << 40, math.MaxInt, math.MinInt} {
			b := bytes.Clone(c)
			copy(b[at:], num(n))
			if !bytes.Equal(b, c) {
				notForm(t, "a commit of wrong counts", b)
			}
		}
	}
	at := len(w) - 32 - 76 - 8
	for _, n := range []int{-1, 0, 1, 75, 77, 108, 300, 301, 1 << 40, math.MaxInt, math.MinInt} {
		b := bytes.Clone(w)
		copy(b[at:], num(n))
		notForm(t, "a welcome of a wrong length", b)
	}
	for i := range 8 {
		for _, x := range []byte{2, 3, 128, 255} {
			b := bytes.Clone(w)
			b[33+i] = x
			notForm(t, "an admin that is not 0 or 1", b)
		}
	}
}

func TestP12_2Welcome(t *testing.T) {
	b, err := wire.Welcome(hello())
	if h := sponge.Sum(b); err != api.OK || len(b) != 437 || hex.EncodeToString(h[:]) != "fa7816c9d89a2d66a0eeb05375362888fbbf679e6d0688068692fb38b392f737" {
		t.Errorf("%d bytes, %x, %v", len(b), h, err)
	}
	for name, change := range map[string]func(w *api.Welcome){
		"itself":        func(w *api.Welcome) {},
		"no Box":        func(w *api.Welcome) { w.Box = nil },
		"a Box of 300":  func(w *api.Welcome) { w.Box = row(300) },
		"edges":         func(w *api.Welcome) { w.Leaf, w.From, w.View.Epoch = 7, 0, api.MaxEpoch },
		"other edges":   func(w *api.Welcome) { w.Leaf, w.From, w.View.Epoch = 0, 7, 0 },
		"Leaf and From": func(w *api.Welcome) { w.Leaf, w.From = 1, 1 },
	} {
		w := hello()
		change(&w)
		b, err := wire.Welcome(w)
		if err != api.OK || !bytes.Equal(b, welcome(w)) {
			t.Errorf("%s: %x, %v", name, b, err)
		}
		got, err := wire.ToWelcome(welcome(w))
		if err != api.OK || got.Leaf != w.Leaf || got.From != w.From || got.View != w.View || got.Tag != w.Tag || !bytes.Equal(got.Box, w.Box) {
			t.Errorf("%s, read: %v, %v", name, got, err)
		}
	}
}

func TestP12_2WelcomesThatMayNotBe(t *testing.T) {
	for name, w := range oddWelcomes() {
		if b, err := wire.Welcome(w); err != api.ErrArg || len(b) != 0 {
			t.Errorf("%s: %d bytes, %v", name, len(b), err)
		}
		if got, err := wire.ToWelcome(welcome(w)); err != api.ErrForm || !reflect.DeepEqual(got, api.Welcome{}) {
			t.Errorf("%s, read: %v, %v", name, got, err)
		}
	}
	notForm(t, "nothing", nil)
}

func TestP12_2Same(t *testing.T) {
	for name, c := range oddCommits() {
		if !wire.Same(c, c) || wire.Same(c, some()) || wire.Same(some(), c) {
			t.Errorf("%s", name)
		}
	}
	for name, change := range map[string]func(c *api.Commit){
		"Epoch":      func(c *api.Commit) { c.Epoch++ },
		"From":       func(c *api.Commit) { c.From++ },
		"Ops":        func(c *api.Commit) { c.Ops[2].K++ },
		"fewer Ops":  func(c *api.Commit) { c.Ops = c.Ops[:2] },
		"Votes":      func(c *api.Commit) { c.Votes[1].Sig.S++ },
		"Admin":      func(c *api.Commit) { c.Votes[1].Admin++ },
		"no Votes":   func(c *api.Commit) { c.Votes = nil },
		"Seal":       func(c *api.Commit) { c.Seal++ },
		"Path":       func(c *api.Commit) { c.Path[2]++ },
		"Boxes":      func(c *api.Commit) { c.Boxes[0][43]++ },
		"a Box":      func(c *api.Commit) { c.Boxes[1] = []byte{0} },
		"more Boxes": func(c *api.Commit) { c.Boxes = append(c.Boxes, nil) },
		"Tag":        func(c *api.Commit) { c.Tag[31]++ },
		"Sig E":      func(c *api.Commit) { c.Sig.E++ },
		"Sig S":      func(c *api.Commit) { c.Sig.S++ },
	} {
		c := some()
		change(&c)
		if wire.Same(c, some()) || wire.Same(some(), c) {
			t.Errorf("another %s is the same", name)
		}
	}
	a, b := api.Commit{Boxes: [][]byte{nil, {}}}, api.Commit{Ops: []api.Op{}, Votes: []api.Vote{}, Boxes: [][]byte{{}, nil}}
	if !wire.Same(some(), some()) || !wire.Same(a, b) || !wire.Same(api.Commit{}, api.Commit{Boxes: [][]byte{}}) {
		t.Error("nil and empty rows are not one")
	}
}

func TestP12_3ReadAndWritten(t *testing.T) {
	for name, b := range map[string][]byte{"some": commit(some()), "most": commit(most()), "nothing": commit(api.Commit{})} {
		c, err := wire.ToCommit(b)
		again, errAgain := wire.Commit(c)
		if err != api.OK || errAgain != api.OK || !bytes.Equal(b, again) {
			t.Errorf("%s: %v, %v", name, err, errAgain)
		}
	}
	b := welcome(hello())
	w, err := wire.ToWelcome(b)
	again, errAgain := wire.Welcome(w)
	if err != api.OK || errAgain != api.OK || !bytes.Equal(b, again) {
		t.Errorf("welcome: %v, %v", err, errAgain)
	}
}

// Whatever single byte is another one: what is still read is written as it was read.
func TestP12_3OtherBytesAreWrittenAsRead(t *testing.T) {
	c, w := commit(some()), welcome(hello())
	for i := range c {
		for _, x := range []byte{1, 0x80, 0xff} {
			b := bytes.Clone(c)
			b[i] ^= x
			if got, err := wire.ToCommit(b); err == api.OK {
				if again, err := wire.Commit(got); err != api.OK || !bytes.Equal(b, again) {
					t.Errorf("commit, byte %d: %v", i, err)
				}
			} else if err != api.ErrForm {
				t.Errorf("commit, byte %d: %v", i, err)
			}
		}
	}
	for i := range w {
		for _, x := range []byte{1, 0x80, 0xff} {
			b := bytes.Clone(w)
			b[i] ^= x
			if got, err := wire.ToWelcome(b); err == api.OK {
				if again, err := wire.Welcome(got); err != api.OK || !bytes.Equal(b, again) {
					t.Errorf("welcome, byte %d: %v", i, err)
				}
			} else if err != api.ErrForm {
				t.Errorf("welcome, byte %d: %v", i, err)
			}
		}
	}
}

func TestP12_3NothingIsChangedOrShared(t *testing.T) {
	c := some()
	c.Ops = append(c.Ops, api.Op{Kind: 99})[:3]
	c.Boxes[2] = append(c.Boxes[2], 77)[:1]
	a, _ := wire.Commit(c)
	b, _ := wire.Commit(c)
	fill(a)
	fill(wire.Body(c))
	if !wire.Same(c, some()) || c.Ops[:4][3].Kind != 99 || c.Boxes[2][:2][1] != 77 || !bytes.Equal(b, commit(some())) {
		t.Error("Commit changes, or shares memory")
	}
	x, _ := wire.ToCommit(b)
	y, _ := wire.ToCommit(b)
	fill(x.Boxes[0])
	fill(x.Boxes[1])
	fill(b)
	if !wire.Same(y, some()) || !bytes.Equal(x.Boxes[2], row(1)) {
		t.Error("ToCommit shares memory")
	}
	h := hello()
	d, _ := wire.Welcome(h)
	e, _ := wire.Welcome(h)
	fill(d)
	if !bytes.Equal(h.Box, row(76)) || !bytes.Equal(e, welcome(hello())) {
		t.Error("Welcome changes, or shares memory")
	}
	p, _ := wire.ToWelcome(e)
	q, _ := wire.ToWelcome(e)
	fill(p.Box)
	fill(e)
	if !bytes.Equal(q.Box, row(76)) {
		t.Error("ToWelcome shares memory")
	}
}

// fill writes all over a list, and the room behind it.
func fill(p []byte) {
	p = p[:cap(p)]
	for i := range p {
		p[i] = 0xee
	}
}
