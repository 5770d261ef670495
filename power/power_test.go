package power_test

import (
	"math"
	"math/big"
	"testing"

	"curia/api"
	"curia/power"
)

// wrong is numbers that are not 0 to P - 1.
func wrong() []int {
	return []int{-1, -2, -api.P, api.P, api.P + 1, 2 * api.P, 1 << 32, 1 << 40, math.MaxInt, math.MinInt}
}

// right is numbers 0 to P - 1, edges first.
func right() []int {
	l := []int{0, 1, 2, 3, 4, api.Q - 1, api.Q, api.Q + 1, api.P - 2, api.P - 1}
	x := 12345
	for range 30 {
		x = x * 48271 % api.P
		l = append(l, x)
	}
	return l
}

// pow is a power by the library.
func pow(b, e int) int {
	return int(new(big.Int).Exp(big.NewInt(int64(b)), big.NewInt(int64(e)), big.NewInt(api.P)).Int64())
}

// sumOf is a Hash that begins with a number, and goes on.
func sumOf(n uint64, rest byte) api.Hash {
	var h api.Hash
	for i := range h {
		h[i] = rest
	}
	for i := range 8 {
		h[i] = byte(n >> (56 - 8*i))
	}
	return h
}

func TestP2_1Mul(t *testing.T) {
	for _, a := range right() {
		for _, b := range right() {
			z := new(big.Int).Mul(big.NewInt(int64(a)), big.NewInt(int64(b)))
			want := int(z.Mod(z, big.NewInt(api.P)).Int64())
			if y := power.Mul(a, b); y != want {
				t.Errorf("Mul(%d, %d) = %d, want %d", a, b, y, want)
			}
		}
	}
}

func TestP2_1MulOfOthers(t *testing.T) {
	for _, a := range wrong() {
		for _, b := range append(right(), wrong()...) {
			if power.Mul(a, b) != 0 || power.Mul(b, a) != 0 {
				t.Errorf("Mul of %d and %d is not 0", a, b)
			}
		}
	}
}

func TestP2_1Pow(t *testing.T) {
	if y := power.Pow(4, 3); y != 64 {
		t.Errorf("Pow(4, 3) = %d", y)
	}
	for _, b := range right() {
		for _, e := range right() {
			if e > api.Q {
				continue
			}
			if y := power.Pow(b, e); y != pow(b, e) {
				t.Errorf("Pow(%d, %d) = %d, want %d", b, e, y, pow(b, e))
			}
		}
		if power.Pow(b, 0) != 1 {
			t.Errorf("Pow(%d, 0) = %d", b, power.Pow(b, 0))
		}
	}
}

func TestP2_1PowOfOthers(t *testing.T) {
	for _, b := range wrong() {
		for _, e := range []int{-1, 1, 2, api.Q, api.Q + 1} {
			if y := power.Pow(b, e); y != 0 {
				t.Errorf("Pow(%d, %d) = %d", b, e, y)
			}
		}
	}
	for _, e := range []int{-1, -api.Q, api.Q + 1, api.P - 1, api.P, math.MaxInt, math.MinInt} {
		for _, b := range right() {
			if y := power.Pow(b, e); y != 0 {
				t.Errorf("Pow(%d, %d) = %d", b, e, y)
			}
		}
	}
}

func TestP2_1Is(t *testing.T) {
	for _, y := range append(wrong(), 0, 1, api.P-1) {
		if power.Is(y) {
			t.Errorf("Is(%d)", y)
		}
	}
	yes := 0
	for _, y := range right() {
		want := y > 1 && pow(y, api.Q) == 1
		if power.Is(y) != want {
			t.Errorf("Is(%d) = %v", y, !want)
		}
		if want {
			yes++
		}
	}
	if yes == 0 || yes == len(right()) {
		t.Error("the numbers asked of tell nothing")
	}
}

func TestP2_2NumberAndScalar(t *testing.T) {
	for _, n := range []uint64{0, 1, 2, 255, 256, api.Q - 2, api.Q - 1, api.Q, api.Q + 1, 2 * api.Q, api.P, 1 << 32, 1<<63 - 1, 1 << 63, 1<<63 + 1, math.MaxUint64 - 1, math.MaxUint64, 0x0102030405060708} {
		for _, rest := range []byte{0, 1, 0xff} {
			h := sumOf(n, rest)
			z := new(big.Int).SetUint64(n)
			number := int(new(big.Int).Mod(z, big.NewInt(api.Q)).Int64())
			scalar := int(new(big.Int).Mod(z, big.NewInt(api.Q-1)).Int64()) + 1
			if y := power.Number(h); y != number {
				t.Errorf("Number of %d = %d, want %d", n, y, number)
			}
			if y := power.Scalar(h); y != scalar {
				t.Errorf("Scalar of %d = %d, want %d", n, y, scalar)
			}
		}
	}
}

func TestP2_3PowersMultiply(t *testing.T) {
	for _, b := range right() {
		for _, d := range []int{0, 1, 2, 77, api.Q / 2, api.Q - 1} {
			for _, e := range []int{0, 1, 5, 1000, api.Q / 2, api.Q - d} {
				if d+e > api.Q {
					continue
				}
				if power.Mul(power.Pow(b, d), power.Pow(b, e)) != power.Pow(b, d+e) {
					t.Errorf("Pow(%d, %d) times Pow(%d, %d) is another one", b, d, b, e)
				}
			}
		}
	}
}

func TestP2_3PowersOfGAreKeys(t *testing.T) {
	for e := 1; e < 300; e++ {
		if !power.Is(power.Pow(api.G, e)) || !power.Is(power.Pow(api.G, api.Q-e)) {
			t.Errorf("Pow(G, %d) or Pow(G, Q - %d) is none", e, e)
		}
	}
	if power.Is(power.Pow(api.G, 0)) || power.Is(power.Pow(api.G, api.Q)) {
		t.Error("1 is a public key")
	}
}
