package seal_test

import (
	"bytes"
	"encoding/hex"
	"math"
	"slices"
	"testing"

	"curia/api"
	"curia/pair"
	"curia/power"
	"curia/seal"
	"curia/sponge"
)

// sum is a text's sum.
func sum(s string) api.Hash { return sponge.Sum([]byte(s)) }

// key is the key of a text's sum.
func key(s string) *pair.Key { return pair.From(sum(s)) }

// count is n bytes that rise from 0 on.
func count(n int) []byte {
	p := make([]byte, n)
	for i := range p {
		p[i] = byte(i)
	}
	return p
}

// box is the document's box, by the secret s and the four bytes own.
func box(s api.Hash, own, p []byte) []byte {
	body := []byte{}
	for at := 0; at < len(p); at += 32 {
		h := sponge.Derive(s, "stream", pair.Four(at/32))
		for i, c := range p[at:min(at+32, len(p))] {
			body = append(body, c^h[i])
		}
	}
	tag := sponge.Derive(s, "tag", own, body)
	return slices.Concat(own, tag[:8], body)
}

func TestP5_1KnownBoxes(t *testing.T) {
	for _, x := range []struct {
		p    []byte
		want string
	}{
		{nil, "3002ad70e2488a5668ce463c"},
		{[]byte("hello"), "3002ad7029644815e4f15098fad716d16e"},
		{count(70), "3002ad7045fe52d76292218a92b378be05af12ccf26c8f93827e89f9ec99c404b5da67d477e60363cd704830e1d4d4ade5c2bac4ef5d1230e6efbc9b1ec7b0320a5685ded55ad62317328548901a9f0309a1"},
	} {
		b, err := seal.Seal(key("a").Public(), sum("d"), x.p)
		if err != api.OK || hex.EncodeToString(b) != x.want {
			t.Errorf("Seal of %x = %x, %v", x.p, b, err)
		}
	}
}

func TestP5_1SealByTheBook(t *testing.T) {
	for n := 0; n <= api.MaxPlain; n++ {
		p := count(n)
		draw := sponge.Sum(p)
		k := key("k")
		e := pair.From(draw)
		s, _ := e.Shared(k.Public())
		b, err := seal.Seal(k.Public(), draw, p)
		if err != api.OK || !bytes.Equal(b, box(s, pair.Four(e.Public()), p)) {
			t.Errorf("%d bytes: %x, %v", n, b, err)
		}
		if len(b) != 12+n {
			t.Errorf("%d bytes have a box of %d", n, len(b))
		}
	}
}

func TestP5_1SealErrors(t *testing.T) {
	for _, public := range []int{0, 1, 2, -1, -4, api.P - 1, api.P, api.P + 4, math.MaxInt, math.MinInt} {
		for _, n := range []int{0, 5, api.MaxPlain, api.MaxPlain + 1} {
			if b, err := seal.Seal(public, sum("d"), count(n)); err != api.ErrArg || len(b) != 0 {
				t.Errorf("Seal to %d of %d bytes: %x, %v", public, n, b, err)
			}
		}
	}
	for _, n := range []int{api.MaxPlain + 1, api.MaxPlain + 2, 256, 1000, 100000} {
		if b, err := seal.Seal(4, sum("d"), count(n)); err != api.ErrArg || len(b) != 0 {
			t.Errorf("Seal of %d bytes: %x, %v", n, b, err)
		}
	}
}

func TestP5_2OpenByTheBook(t *testing.T) {
	k := key("k")
	for i := range 60 {
		e := key(string(rune('A' + i)))
		s, _ := e.Shared(k.Public())
		p, err := seal.Open(k, box(s, pair.Four(e.Public()), count(i)))
		if err != api.OK || !bytes.Equal(p, count(i)) {
			t.Errorf("%d: %x, %v", i, p, err)
		}
	}
}

func TestP5_2LengthsOfBoxes(t *testing.T) {
	k := key("k")
	s, _ := key("e").Shared(k.Public())
	own := pair.Four(key("e").Public())
	for _, n := range []int{201, 202, 244, 256, 5000} {
		for _, by := range []*pair.Key{k, nil} {
			if p, err := seal.Open(by, box(s, own, count(n))); err != api.ErrForm || len(p) != 0 {
				t.Errorf("box of %d bytes: %x, %v", 12+n, p, err)
			}
		}
	}
	whole := box(s, own, nil)
	for n := range 12 {
		for _, by := range []*pair.Key{k, nil} {
			if p, err := seal.Open(by, whole[:n]); err != api.ErrForm || len(p) != 0 {
				t.Errorf("box of %d bytes: %x, %v", n, p, err)
			}
		}
	}
	if p, err := seal.Open(k, box(s, own, count(200))); err != api.OK || !bytes.Equal(p, count(200)) {
		t.Errorf("box of 212 bytes: %v", err)
	}
	if p, err := seal.Open(k, whole); err != api.OK || len(p) != 0 {
		t.Errorf("box of 12 bytes: %v", err)
	}
}

func TestP5_2BoxesThatDoNotOpen(t *testing.T) {
	k := key("k")
	b, _ := seal.Seal(k.Public(), sum("d"), []byte("hello"))
	for i := range b {
		for bit := range 8 {
			other := bytes.Clone(b)
			other[i] ^= 1 << bit
			if p, err := seal.Open(k, other); err != api.ErrSeal || len(p) != 0 {
				t.Errorf("byte %d, bit %d: %x, %v", i, bit, p, err)
			}
		}
	}
	for _, other := range [][]byte{b[:len(b)-1], append(bytes.Clone(b), 0)} {
		if p, err := seal.Open(k, other); err != api.ErrSeal || len(p) != 0 {
			t.Errorf("%x: %x, %v", other, p, err)
		}
	}
	for _, by := range []*pair.Key{nil, key("other")} {
		if p, err := seal.Open(by, b); err != api.ErrSeal || len(p) != 0 {
			t.Errorf("another key: %x, %v", p, err)
		}
	}
	if p, err := seal.Open(k, b); err != api.OK || string(p) != "hello" {
		t.Errorf("the box itself: %q, %v", p, err)
	}
}

// A first number that is none would share what anybody can work out.
func TestP5_2BoxOfNoPublicKey(t *testing.T) {
	k := key("k")
	for _, public := range []int{0, 1, 2, api.P - 1, api.P, api.P + 1, api.P + 4, 1<<32 - 1} {
		for _, shared := range []int{0, 1, public, api.P - 1, power.Pow(public%api.P, k.Secret())} {
			s := sponge.Derive(api.Hash{}, "share", pair.Four(shared))
			for _, s := range []api.Hash{s, {}} {
				p, err := seal.Open(k, box(s, pair.Four(public), []byte("hello")))
				if err != api.ErrSeal || len(p) != 0 {
					t.Errorf("a box by %d opens: %x, %v", public, p, err)
				}
			}
		}
	}
}

func TestP5_3OpenOfSeal(t *testing.T) {
	for i := range 50 {
		k := key(string(rune('a' + i)))
		p := bytes.Repeat([]byte{byte(i)}, i*4)
		b, err := seal.Seal(k.Public(), sum(string(rune('A'+i))), p)
		if err != api.OK {
			t.Fatalf("%d: %v", i, err)
		}
		if q, err := seal.Open(k, b); err != api.OK || !bytes.Equal(p, q) {
			t.Errorf("%d: %x, %v", i, q, err)
		}
	}
}

func TestP5_3NothingIsChangedOrShared(t *testing.T) {
	all := bytes.Repeat([]byte{9}, 64)
	k := key("k")
	b, _ := seal.Seal(k.Public(), sum("d"), all[:20])
	again, _ := seal.Seal(k.Public(), sum("d"), all[:20])
	room := append(bytes.Clone(b), bytes.Repeat([]byte{9}, 64)...)
	p, _ := seal.Open(k, room[:len(b)])
	q, _ := seal.Open(k, room[:len(b)])
	if !bytes.Equal(all, bytes.Repeat([]byte{9}, 64)) {
		t.Error("the plain text, or the room behind it, is changed")
	}
	if !bytes.Equal(room[:len(b)], b) || !bytes.Equal(room[len(b):], bytes.Repeat([]byte{9}, 64)) {
		t.Error("the box, or the room behind it, is changed")
	}
	kept := bytes.Clone(b)
	fill(p)
	fill(b)
	if !bytes.Equal(again, kept) || !bytes.Equal(q, all[:20]) || !bytes.Equal(room[:len(b)], kept) {
		t.Error("answers share memory")
	}
}

// fill writes all over a list, and the room behind it.
func fill(p []byte) {
	p = p[:cap(p)]
	for i := range p {
		p[i] = 0xee
	}
}

func TestW1ZeroKeyEnds(t *testing.T) {
	b, _ := seal.Seal(key("k").Public(), sum("d"), []byte("hello"))
	if p, err := seal.Open(new(pair.Key), b); err != api.ErrSeal || len(p) != 0 {
		t.Errorf("%x, %v", p, err)
	}
}
