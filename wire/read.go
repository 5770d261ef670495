package wire

import (
	"bytes"
	"math"

	"curia/api"
	"curia/rows"
)

// reader reads bytes from the first on. Once they are none of the kind it is
// bad, for good, and all that it reads is nought.
type reader struct {
	rest []byte
	bad  bool
}

// ended tells whether all was read, and was of the kind.
func (r *reader) ended() bool { return !r.bad && len(r.rest) == 0 }

// take is the next n bytes.
func (r *reader) take(n int) []byte {
	if r.bad || n > len(r.rest) {
		r.bad = true
		return nil
	}
	b := r.rest[:n]
	r.rest = r.rest[n:]
	return b
}

// kind reads the first byte.
func (r *reader) kind(kind byte) {
	if b := r.take(1); !r.bad && b[0] != kind {
		r.bad = true
	}
}

// num reads a number.
func (r *reader) num() int { return r.count(math.MaxInt) }

// count reads how many of something there are, of which there may be some at most.
func (r *reader) count(most int) int {
	n, ok := rows.ToNum(r.take(8))
	if !ok || n > most {
		r.bad = true
		return 0
	}
	return n
}

// hash reads a sum.
func (r *reader) hash() api.Hash {
	var h api.Hash
	copy(h[:], r.take(len(h)))
	return h
}

// sig reads a signature.
func (r *reader) sig() api.Sig {
	e := r.num()
	return api.Sig{E: e, S: r.num()}
}

// leaf reads a leaf.
func (r *reader) leaf() api.Leaf {
	sign := r.num()
	return api.Leaf{Sign: sign, Seal: r.num()}
}

// box reads a box, and its length ahead of it.
func (r *reader) box() []byte { return bytes.Clone(r.take(r.count(maxBox))) }

// flag reads a byte that is 0 or 1.
func (r *reader) flag() bool {
	b := r.take(1)
	if r.bad || b[0] > 1 {
		r.bad = true
		return false
	}
	return b[0] == 1
}

// op reads an operation.
func (r *reader) op() api.Op {
	var o api.Op
	o.Kind = r.num()
	o.Who = r.num()
	o.K = r.num()
	o.Leaf = r.leaf()
	return o
}

// vote reads a vote.
func (r *reader) vote() api.Vote {
	admin := r.num()
	return api.Vote{Admin: admin, Sig: r.sig()}
}

// commit reads a commit, behind its kind.
func (r *reader) commit() api.Commit {
	var c api.Commit
	c.Epoch = r.num()
	c.From = r.num()
	for range r.count(api.MaxOps) {
		c.Ops = append(c.Ops, r.op())
	}
	for range r.count(maxVotes) {
		c.Votes = append(c.Votes, r.vote())
	}
	c.Seal = r.num()
	for i := range c.Path {
		c.Path[i] = r.num()
	}
	for range r.count(maxBoxes) {
		c.Boxes = append(c.Boxes, r.box())
	}
	c.Tag = r.hash()
	c.Sig = r.sig()
	return c
}

// welcome reads a welcome, behind its kind.
func (r *reader) welcome() api.Welcome {
	var w api.Welcome
	w.Leaf = r.num()
	w.From = r.num()
	w.View = r.view()
	w.Box = r.box()
	w.Tag = r.hash()
	return w
}

// view reads a view.
func (r *reader) view() api.View {
	var v api.View
	v.Epoch = r.num()
	v.K = r.num()
	for i := range v.Admins {
		v.Admins[i] = r.flag()
	}
	v.Chain = r.hash()
	for i := range v.Tree.Leaves {
		v.Tree.Leaves[i] = r.leaf()
	}
	for i := range v.Tree.Nodes {
		v.Tree.Nodes[i] = r.num()
	}
	return v
}
