package sponge_test

import (
	"bytes"
	"encoding/hex"
	"strings"
	"testing"

	"curia/api"
	"curia/sponge"
)

// text is a sum in hexadecimal.
func text(h api.Hash) string { return hex.EncodeToString(h[:]) }

// count is n bytes that rise from 0 on.
func count(n int) []byte {
	p := make([]byte, n)
	for i := range p {
		p[i] = byte(i)
	}
	return p
}

// roll is a word turned right, written without a library.
func roll(x uint64, n uint) uint64 { return x>>n | x<<(64-n) }

// round is the document's round, line by line.
func round(x [5]uint64, r int) [5]uint64 {
	x0, x1, x2, x3, x4 := x[0], x[1], x[2], x[3], x[4]
	x2 ^= uint64(0xf0 - 0x0f*r)
	x0 ^= x4
	x4 ^= x3
	x2 ^= x1
	t0, t1, t2, t3, t4 := ^x0&x1, ^x1&x2, ^x2&x3, ^x3&x4, ^x4&x0
	x0 ^= t1
	x1 ^= t2
	x2 ^= t3
	x3 ^= t4
	x4 ^= t0
	x1 ^= x0
	x0 ^= x4
	x3 ^= x2
	x2 = ^x2
	x0 ^= roll(x0, 19) ^ roll(x0, 28)
	x1 ^= roll(x1, 61) ^ roll(x1, 39)
	x2 ^= roll(x2, 1) ^ roll(x2, 6)
	x3 ^= roll(x3, 10) ^ roll(x3, 17)
	x4 ^= roll(x4, 7) ^ roll(x4, 41)
	return [5]uint64{x0, x1, x2, x3, x4}
}

// turn is twelve rounds.
func turn(x [5]uint64) [5]uint64 {
	for r := range 12 {
		x = round(x, r)
	}
	return x
}

// sum is the document's Sum of one row.
func sum(p []byte) api.Hash {
	p = append(bytes.Clone(p), 0x80)
	for len(p)%8 != 0 {
		p = append(p, 0)
	}
	x := turn([5]uint64{32, 0, 0, 0, 0})
	for at := 0; at < len(p); at += 8 {
		var word uint64
		for _, c := range p[at : at+8] {
			word = word<<8 | uint64(c)
		}
		x[0] ^= word
		x = turn(x)
	}
	var h api.Hash
	for i := range 32 {
		h[i] = byte(x[0] >> (56 - 8*(i%8)))
		if i%8 == 7 {
			x = turn(x)
		}
	}
	return h
}

func TestP1_1TurnOfKnownWords(t *testing.T) {
	for _, x := range []struct{ from, to [5]uint64 }{
		{[5]uint64{}, [5]uint64{0x78ea7ae5cfebb108, 0x9b9bfb8513b560f7, 0x6937f83e03d11a50, 0x3fe53f36f2c1178c, 0x45d648e4def12c9}},
		{[5]uint64{32}, [5]uint64{0x9496d45d5e6b7b99, 0xc9a6b8c75456ff2f, 0x49e9d156bbacef25, 0x88f3e955358e24c4, 0x757edfbcaf0d4649}},
		{[5]uint64{0x0000080100cc0002}, [5]uint64{0x9b1e5494e934d681, 0x4bc3a01e333751d2, 0xae65396c6b34b81a, 0x3c7fd4a4d56a4db3, 0x1a5c464906c5976d}},
	} {
		if y := sponge.Turn(x.from); y != x.to {
			t.Errorf("Turn(%x) = %x, want %x", x.from, y, x.to)
		}
	}
}

func TestP1_1TurnOfManyWords(t *testing.T) {
	all := ^uint64(0)
	l := [][5]uint64{{1}, {0, 1}, {0, 0, 1}, {0, 0, 0, 1}, {0, 0, 0, 0, 1}, {1 << 63, 1 << 63}, {all, all, all, all, all}, {all, 0, all, 0, all}}
	x := [5]uint64{1, 2, 3, 4, 5}
	for range 50 {
		x = turn(x)
		l = append(l, x)
	}
	for _, x := range l {
		if y := sponge.Turn(x); y != turn(x) {
			t.Errorf("Turn(%x) = %x, want %x", x, y, turn(x))
		}
	}
}

func TestP1_2SumOfKnownBytes(t *testing.T) {
	for _, x := range []struct {
		p    []byte
		want string
	}{
		{nil, "978f00c7cdb97551d1b11dca832c831b3ab80c237ab6597dfa63b413ee3faee6"},
		{count(20), "90baf19d32fba417d44b560aeb2326208d8041b4401244f0a15d8674e6ba493b"},
	} {
		if h := sponge.Sum(x.p); text(h) != x.want {
			t.Errorf("Sum(%x) = %x, want %s", x.p, h, x.want)
		}
	}
}

func TestP1_2SumOfEachLength(t *testing.T) {
	for n := range 70 {
		p := count(n)
		for i := range p {
			p[i] = p[i]*91 + byte(n)
		}
		if h := sponge.Sum(p); h != sum(p) {
			t.Errorf("%d bytes: %x, want %x", n, h, sum(p))
		}
	}
	big := bytes.Repeat([]byte{0xff, 0, 0x80}, 5000)
	if h := sponge.Sum(big); h != sum(big) {
		t.Errorf("%d bytes: %x", len(big), h)
	}
}

func TestP1_2EndsAreTold(t *testing.T) {
	seen := map[api.Hash]int{}
	for i, p := range [][]byte{nil, {0}, {0, 0}, {0x80}, {0x80, 0}, count(7), count(8), append(count(7), 0x80), make([]byte, 8)} {
		h := sponge.Sum(p)
		if j, ok := seen[h]; ok {
			t.Errorf("%d and %d have one sum", j, i)
		}
		seen[h] = i
	}
}

func TestP1_2DeriveIsSumOfItsParts(t *testing.T) {
	h := sponge.Sum([]byte("h"))
	for _, x := range []struct {
		label string
		l     [][]byte
		want  string
	}{
		{"path", nil, "0cf8797664522753dd8f3a2e62818cc2f64baceb290711a91cfefad3a39c07b5"},
		{"01234567890123456789", [][]byte{[]byte("ab"), []byte("c")}, "f71f409b1feacfa6688a9adc0b99676e102cfc678376166d557c746473382bd0"},
		{"", nil, ""},
		{"", [][]byte{{}}, ""},
		{"a", [][]byte{nil, {0}, count(33)}, ""},
		{"\x00\xff", [][]byte{count(8)}, ""},
	} {
		all := append(bytes.Clone(h[:]), byte(len(x.label)))
		all = append(all, x.label...)
		for _, p := range x.l {
			all = append(all, p...)
		}
		got := sponge.Derive(h, x.label, x.l...)
		if got != sum(all) || x.want != "" && text(got) != x.want {
			t.Errorf("Derive(%q, %x) = %x", x.label, x.l, got)
		}
	}
	if sponge.Derive(h, "a", []byte("b")) == sponge.Derive(h, "ab") {
		t.Error("the label's length does not count")
	}
	if sponge.Derive(h, "a") == sponge.Derive(api.Hash{}, "a") {
		t.Error("the secret does not count")
	}
}

func TestP1_3PartsDoNotMatter(t *testing.T) {
	p := count(30)
	want := sponge.Sum(p)
	h := sponge.Sum(nil)
	derived := sponge.Derive(h, "x", p)
	for i := range 31 {
		for j := i; j <= 30; j++ {
			if sponge.Sum(p[:i], nil, p[i:j], []byte{}, p[j:]) != want {
				t.Errorf("Sum parted at %d, %d is another one", i, j)
			}
			if sponge.Derive(h, "x", p[:i], p[i:j], nil, p[j:]) != derived {
				t.Errorf("Derive parted at %d, %d is another one", i, j)
			}
		}
	}
	if sponge.Sum() != sponge.Sum(nil) || sponge.Sum() != sponge.Sum(nil, []byte{}, nil) {
		t.Error("nothing, parted, is another sum")
	}
}

func TestP1_3NothingIsChanged(t *testing.T) {
	all := bytes.Repeat([]byte{7}, 64)
	row := all[3:10]
	l := [][]byte{row, nil, all[20:21]}
	sponge.Sum(l...)
	sponge.Derive(api.Hash{1}, "label", l...)
	if !bytes.Equal(all, bytes.Repeat([]byte{7}, 64)) {
		t.Errorf("rows, or the room behind them, are changed: %x", all)
	}
	if len(l) != 3 || len(l[0]) != 7 || &l[0][0] != &row[0] || l[1] != nil || len(l[2]) != 1 {
		t.Error("the list of rows is changed")
	}
	x := [5]uint64{1, 2, 3, 4, 5}
	sponge.Turn(x)
	if x != [5]uint64{1, 2, 3, 4, 5} {
		t.Error("words are changed")
	}
}

func TestW1LongLabelsEnd(t *testing.T) {
	for _, n := range []int{21, 255, 256, 257, 100000} {
		sponge.Derive(api.Hash{}, strings.Repeat("\xff", n), nil)
	}
}

func TestW7AnswersStay(t *testing.T) {
	a := sponge.Sum([]byte("a"))
	kept := a
	sponge.Sum([]byte("b"))
	sponge.Derive(a, "c")
	if a != kept || sponge.Sum([]byte("a")) != kept {
		t.Error("an answer has changed")
	}
}
