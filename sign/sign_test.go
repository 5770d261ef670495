package sign_test

import (
	"bytes"
	"math"
	"testing"

	"curia/api"
	"curia/pair"
	"curia/power"
	"curia/sign"
	"curia/sponge"
)

// key is the key of a text's sum.
func key(s string) *pair.Key { return pair.From(sponge.Sum([]byte(s))) }

// asked is the document's E of R, y and p.
func asked(r, y int, p []byte) int {
	return power.Number(sponge.Derive(api.Hash{}, "sign", pair.Four(r), pair.Four(y), p))
}

// texts is what is signed in tests.
func texts() [][]byte {
	l := [][]byte{nil, {}, {0}, {0, 0}, []byte("x"), bytes.Repeat([]byte{0xff}, 1000)}
	for i := range 40 {
		l = append(l, []byte{byte(i), 1, 2})
	}
	return l
}

func TestP4_1KnownSignatures(t *testing.T) {
	long := make([]byte, 100)
	for i := range long {
		long[i] = byte(i)
	}
	for _, x := range []struct {
		key  string
		p    []byte
		want api.Sig
	}{
		{"a", nil, api.Sig{E: 222352198, S: 331282605}},
		{"a", []byte("x"), api.Sig{E: 414391515, S: 542079963}},
		{"a", long, api.Sig{E: 991618826, S: 794904391}},
		{"b", []byte("x"), api.Sig{E: 322183262, S: 316661445}},
	} {
		if s := sign.Sign(key(x.key), x.p); s != x.want {
			t.Errorf("Sign(%s, %x) = %v, want %v", x.key, x.p, s, x.want)
		}
	}
}

func TestP4_1SignByTheBook(t *testing.T) {
	for i, p := range texts() {
		k := key(string(rune('a' + i)))
		r := power.Scalar(sponge.Derive(api.Hash{}, "nonce", pair.Four(k.Secret()), p))
		e := asked(power.Pow(api.G, r), power.Pow(api.G, k.Secret()), p)
		want := api.Sig{E: e, S: (r + e*k.Secret()) % api.Q}
		if s := sign.Sign(k, p); s != want {
			t.Errorf("%d: %v, want %v", i, s, want)
		}
	}
}

func TestP4_1SignOfNilKey(t *testing.T) {
	for _, p := range texts() {
		if s := sign.Sign(nil, p); s != (api.Sig{}) {
			t.Errorf("%v", s)
		}
	}
}

func TestP4_2OtherSignaturesDoNotVerify(t *testing.T) {
	k, p := key("a"), []byte("text")
	s := sign.Sign(k, p)
	for _, x := range []api.Sig{
		{},
		{E: s.S, S: s.E},
		{E: s.E + 1, S: s.S},
		{E: s.E, S: s.S + 1},
		{E: s.E, S: s.S - 1},
		{E: s.E + api.Q, S: s.S},
		{E: s.E - api.Q, S: s.S},
		{E: s.E, S: s.S + api.Q},
		{E: s.E, S: s.S - api.Q},
		{E: s.E, S: -1},
		{E: -1, S: s.S},
		{E: api.Q, S: s.S},
		{E: s.E, S: api.Q},
		{E: math.MaxInt, S: math.MaxInt},
		{E: math.MinInt, S: math.MinInt},
	} {
		if sign.Verify(k.Public(), p, x) {
			t.Errorf("%v Verifies, the signature is %v", x, s)
		}
	}
	for _, q := range [][]byte{nil, []byte("tex"), []byte("text "), []byte("texT")} {
		if sign.Verify(k.Public(), q, s) {
			t.Errorf("the signature of another text Verifies for %q", q)
		}
	}
	if sign.Verify(key("b").Public(), p, s) {
		t.Error("another key's signature Verifies")
	}
}

// The text was looked for: it has a signature whose S is 0, and Q would do as
// well but that it is above Q - 1.
func TestP4_2EdgesOfS(t *testing.T) {
	k, p := key("a"), []byte{0x00, 0x2e, 0x2a, 0x43, 0x24}
	e := 123456789
	if !sign.Verify(k.Public(), p, api.Sig{E: e, S: 0}) {
		t.Error("S of 0 does not Verify")
	}
	for _, s := range []int{-api.Q, api.Q, 2 * api.Q} {
		if sign.Verify(k.Public(), p, api.Sig{E: e, S: s}) {
			t.Errorf("S of %d Verifies", s)
		}
	}
}

// A public number that is none has signatures that anybody can make up: all
// of them fit the sums, and only that it is none tells them apart.
func TestP4_2NoPublicKey(t *testing.T) {
	p := []byte("p")
	for _, public := range []int{0, 1, -1, -4, api.P - 1, api.P, api.P + 4, math.MinInt, math.MaxInt} {
		found := 0
		for s := range 50 {
			for _, flip := range []int{1, api.P - 1, 0} {
				r := power.Mul(power.Pow(api.G, s), flip)
				e := asked(r, public, p)
				if power.Mul(power.Pow(api.G, s), power.Pow(public, api.Q-e)) != r {
					continue
				}
				found++
				if sign.Verify(public, p, api.Sig{E: e, S: s}) {
					t.Errorf("a signature by %d Verifies", public)
				}
			}
		}
		if found == 0 {
			t.Errorf("of %d nothing was asked", public)
		}
	}
}

func TestP4_3WhatIsSignedVerifies(t *testing.T) {
	for i, p := range texts() {
		k := key(string(rune('a' + i)))
		s := sign.Sign(k, p)
		if !sign.Verify(k.Public(), p, s) {
			t.Errorf("%d: %v does not Verify", i, s)
		}
		if s != sign.Sign(k, bytes.Clone(p)) {
			t.Errorf("%d: signed again, another signature", i)
		}
	}
}

func TestP4_3OthersThatVerify(t *testing.T) {
	// Whoever takes another r signs otherwise, and that Verifies as well.
	k, p := key("a"), []byte("p")
	for r := range 20 {
		e := asked(power.Pow(api.G, r), k.Public(), p)
		if !sign.Verify(k.Public(), p, api.Sig{E: e, S: (r + e*k.Secret()) % api.Q}) {
			t.Errorf("the signature by r = %d does not Verify", r)
		}
	}
}

func TestW6TextsAreNotChanged(t *testing.T) {
	all := bytes.Repeat([]byte{5}, 32)
	k := key("a")
	s := sign.Sign(k, all[:9])
	sign.Verify(k.Public(), all[:9], s)
	if !bytes.Equal(all, bytes.Repeat([]byte{5}, 32)) {
		t.Errorf("changed: %x", all)
	}
	if k.Uses() != 0 || k.Secret() != key("a").Secret() {
		t.Error("the key has changed")
	}
}

func TestW1ZeroKeyEnds(t *testing.T) {
	s := sign.Sign(new(pair.Key), []byte("p"))
	sign.Verify(0, []byte("p"), s)
	sign.Verify(0, nil, api.Sig{})
}
