package rows_test

import (
	"bytes"
	"math"
	"testing"

	"curia/api"
	"curia/rows"
)

// same tells whether two lists hold the same rows.
func same(a, b [][]byte) bool {
	if len(a) != len(b) {
		return false
	}
	for i := range a {
		if !bytes.Equal(a[i], b[i]) {
			return false
		}
	}
	return true
}

// pack is the document's Pack, of rows that may be.
func pack(l [][]byte) []byte {
	b := []byte{byte(len(l))}
	for _, p := range l {
		b = append(b, byte(len(p)/256), byte(len(p)%256))
		b = append(b, p...)
	}
	return b
}

// many is n rows of m bytes.
func many(n, m int) [][]byte {
	l := make([][]byte, n)
	for i := range l {
		l[i] = bytes.Repeat([]byte{byte(i)}, m)
	}
	return l
}

// lists is lists that may be.
func lists() [][][]byte {
	return [][][]byte{
		nil, {}, {nil}, {{}}, {{0}}, {[]byte("a"), nil}, {nil, []byte("a")}, {nil, nil, nil},
		many(1, 255), many(1, 256), many(2, 257), many(1, 1999), many(1, 2000),
		many(59, 3), many(60, 0), many(60, 1), many(60, 2000),
	}
}

func TestP6_1PackOfTheExample(t *testing.T) {
	b, err := rows.Pack([]byte("a"), nil)
	if err != api.OK || !bytes.Equal(b, []byte{2, 0, 1, 0x61, 0, 0}) {
		t.Errorf("%x, %v", b, err)
	}
	if b, err := rows.Pack(); err != api.OK || !bytes.Equal(b, []byte{0}) {
		t.Errorf("%x, %v", b, err)
	}
	if b, err := rows.Pack(make([]byte, 0x0102)); err != api.OK || !bytes.HasPrefix(b, []byte{1, 1, 2, 0}) {
		t.Errorf("%x, %v", b, err)
	}
}

func TestP6_1PackOfMany(t *testing.T) {
	for i, l := range lists() {
		if b, err := rows.Pack(l...); err != api.OK || !bytes.Equal(b, pack(l)) {
			t.Errorf("%d: %x, %v", i, b, err)
		}
	}
}

func TestP6_1PackErrors(t *testing.T) {
	for i, l := range [][][]byte{
		many(61, 0), many(62, 1), many(256, 0), many(257, 0), many(1000, 2),
		many(1, 2001), many(2, 2001), {nil, make([]byte, 2001), nil}, {make([]byte, 65536)}, {make([]byte, 70000)},
		append(many(59, 2), make([]byte, 2001)), many(61, 2001),
	} {
		if b, err := rows.Pack(l...); err != api.ErrArg || len(b) != 0 {
			t.Errorf("%d: %x, %v", i, b, err)
		}
	}
}

func TestP6_1UnpackErrors(t *testing.T) {
	for i, b := range [][]byte{
		nil, {}, {1}, {1, 0}, {1, 0, 1}, {1, 0, 2, 7}, {2, 0, 0}, {2, 0, 0, 0}, {0, 0}, {1, 0, 0, 0}, {1, 0, 1, 7, 7},
		pack(many(61, 0)), pack(many(61, 1)), pack(many(255, 0)), pack(many(1, 2001)), pack(many(3, 2001)), pack(many(1, 65535)),
		{0xff}, bytes.Repeat([]byte{0xff}, 70000), {60, 0, 0},
	} {
		if l, err := rows.Unpack(b); err != api.ErrForm || len(l) != 0 {
			t.Errorf("%d: %x, %v", i, l, err)
		}
	}
}

func TestP6_1UnpackOfParts(t *testing.T) {
	for i, l := range lists() {
		whole := pack(l)
		for n := range min(len(whole), 300) {
			if l, err := rows.Unpack(whole[:n]); err != api.ErrForm || len(l) != 0 {
				t.Errorf("%d, the first %d bytes: %x, %v", i, n, l, err)
			}
		}
		if l, err := rows.Unpack(append(whole, 0)); err != api.ErrForm || len(l) != 0 {
			t.Errorf("%d, and a byte: %x, %v", i, l, err)
		}
	}
}

func TestP6_2Num(t *testing.T) {
	for _, x := range []struct {
		n    int
		want []byte
	}{
		{0, []byte{0, 0, 0, 0, 0, 0, 0, 0}},
		{1, []byte{0, 0, 0, 0, 0, 0, 0, 1}},
		{256, []byte{0, 0, 0, 0, 0, 0, 1, 0}},
		{0x0102030405060708, []byte{1, 2, 3, 4, 5, 6, 7, 8}},
		{math.MaxInt, []byte{0x7f, 255, 255, 255, 255, 255, 255, 255}},
		{-1, []byte{255, 255, 255, 255, 255, 255, 255, 255}},
		{-2, []byte{255, 255, 255, 255, 255, 255, 255, 254}},
		{-256, []byte{255, 255, 255, 255, 255, 255, 255, 0}},
		{math.MinInt, []byte{0x80, 0, 0, 0, 0, 0, 0, 0}},
	} {
		if b := rows.Num(x.n); !bytes.Equal(b, x.want) {
			t.Errorf("Num(%d) = %x", x.n, b)
		}
		n, ok := rows.ToNum(x.want)
		if x.n >= 0 && (n != x.n || !ok) || x.n < 0 && (n != 0 || ok) {
			t.Errorf("ToNum(%x) = %d, %v", x.want, n, ok)
		}
	}
}

func TestP6_2ToNumOfNone(t *testing.T) {
	for _, b := range [][]byte{nil, {}, {1}, make([]byte, 7), make([]byte, 9), make([]byte, 16), {1, 2, 3, 4}, {0x80, 0, 0, 0, 0, 0, 0, 1}, {0xff, 0, 0, 0, 0, 0, 0, 0}} {
		if n, ok := rows.ToNum(b); n != 0 || ok {
			t.Errorf("ToNum(%x) = %d, %v", b, n, ok)
		}
	}
}

func TestP6_3UnpackOfPack(t *testing.T) {
	for i, l := range lists() {
		b, _ := rows.Pack(l...)
		if got, err := rows.Unpack(b); err != api.OK || !same(got, l) {
			t.Errorf("%d: %x, %v", i, got, err)
		}
	}
}

func TestP6_3NothingIsChangedOrShared(t *testing.T) {
	all := bytes.Repeat([]byte{9}, 32)
	l := [][]byte{all[:4], all[4:8], nil}
	a, _ := rows.Pack(l...)
	b, _ := rows.Pack(l...)
	fill(a)
	if !bytes.Equal(all, bytes.Repeat([]byte{9}, 32)) || !bytes.Equal(b, pack(l)) {
		t.Error("Pack changes what is handed in, or shares memory")
	}
	room := append(bytes.Clone(b), 9, 9, 9, 9, 9, 9, 9, 9)
	kept := bytes.Clone(room)
	x, _ := rows.Unpack(room[:len(b)])
	y, _ := rows.Unpack(room[:len(b)])
	fill(x[0])
	if !bytes.Equal(room, kept) || !same(y, l) || !same(x[1:], l[1:]) {
		t.Error("Unpack changes what is handed in, or shares memory")
	}
	n := rows.Num(1)
	fill(n)
	if rows.Num(1)[0] != 0 {
		t.Error("Num shares memory")
	}
}

func TestP6_3EmptyRowsShareNothing(t *testing.T) {
	b := pack([][]byte{nil, []byte("abc")})
	l, _ := rows.Unpack(b)
	kept := bytes.Clone(b)
	fill(l[0])
	fill(append(l[0], 1, 2, 3))
	if !bytes.Equal(b, kept) || string(l[1]) != "abc" {
		t.Error("the room behind an empty row is another one's")
	}
}

// fill writes all over a list, and the room behind it.
func fill(p []byte) {
	p = p[:cap(p)]
	for i := range p {
		p[i] = 0xee
	}
}
