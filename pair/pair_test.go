package pair_test

import (
	"bytes"
	"encoding/hex"
	"math"
	"sync"
	"testing"

	"curia/api"
	"curia/pair"
	"curia/power"
	"curia/sponge"
)

// key is the key of a text's sum.
func key(s string) *pair.Key { return pair.From(sponge.Sum([]byte(s))) }

// none is numbers that are no public keys.
func none() []int {
	return []int{0, 1, -1, 2, api.P - 1, api.P, api.P + 4, -4, 1 << 40, math.MaxInt, math.MinInt}
}

func TestP3_1KnownKeys(t *testing.T) {
	for _, x := range []struct {
		text           string
		secret, public int
	}{{"", 237639074, 1986625457}, {"a", 938609636, 500877593}, {"b", 3301281, 2117826290}} {
		k := key(x.text)
		if k.Secret() != x.secret || k.Public() != x.public {
			t.Errorf("%q: %d %d", x.text, k.Secret(), k.Public())
		}
	}
}

func TestP3_1SecretAndPublic(t *testing.T) {
	for i := range 50 {
		h := sponge.Sum([]byte{byte(i)})
		k := pair.From(h)
		if k.Secret() != power.Scalar(h) {
			t.Errorf("%d: Secret %d", i, k.Secret())
		}
		if k.Public() != power.Pow(api.G, power.Scalar(h)) || !power.Is(k.Public()) {
			t.Errorf("%d: Public %d", i, k.Public())
		}
	}
	if k := pair.From(api.Hash{}); k.Secret() != 1 || k.Public() != api.G {
		t.Errorf("of noughts: %d %d", k.Secret(), k.Public())
	}
}

func TestP3_1MadeTells(t *testing.T) {
	k := key("a")
	k.Secret()
	k.Uses()
	k.Shared(4)
	k.Shared(0)
	if k.Made() || k.Made() {
		t.Error("Made ahead of Public")
	}
	y := k.Public()
	if !k.Made() || k.Public() != y || !k.Made() {
		t.Error("not Made behind Public")
	}
	if key("a").Made() {
		t.Error("another key of that sum is Made, too")
	}
}

func TestP3_1PublicByManyAtOnce(t *testing.T) {
	for i := range 200 {
		h := sponge.Sum([]byte{1, byte(i)})
		k := pair.From(h)
		want := power.Pow(api.G, power.Scalar(h))
		var all sync.WaitGroup
		begin := make(chan int)
		got := make([]int, 8)
		made := make([]bool, 8)
		for j := range got {
			all.Go(func() {
				<-begin
				got[j] = k.Public()
				made[j] = k.Made()
			})
		}
		close(begin)
		all.Wait()
		for j := range got {
			if got[j] != want || !made[j] {
				t.Fatalf("key %d, asker %d: %d, %v", i, j, got[j], made[j])
			}
		}
	}
}

func TestP3_1Four(t *testing.T) {
	for _, x := range []struct {
		n    int
		want []byte
	}{
		{0, []byte{0, 0, 0, 0}},
		{1, []byte{0, 0, 0, 1}},
		{0x01020304, []byte{1, 2, 3, 4}},
		{0xfffefdfc, []byte{255, 254, 253, 252}},
		{0x7788990a0b0c0d, []byte{10, 11, 12, 13}},
		{-1, []byte{255, 255, 255, 255}},
		{-2, []byte{255, 255, 255, 254}},
		{math.MinInt, []byte{0, 0, 0, 0}},
		{math.MaxInt, []byte{255, 255, 255, 255}},
	} {
		if got := pair.Four(x.n); !bytes.Equal(got, x.want) {
			t.Errorf("Four(%d) = %v", x.n, got)
		}
	}
	a, b := pair.Four(1), pair.Four(2)
	a[0] = 9
	if b[0] != 0 || pair.Four(1)[0] != 0 {
		t.Error("two answers share memory")
	}
}

func TestP3_2KnownShares(t *testing.T) {
	for _, x := range []struct {
		public int
		want   string
	}{
		{4, "5bc810ca3c08469f69717d3dc340a8cfb1869cb1d6d689c121d16c68bda8dcae"},
		{2117826290, "22687f47c9d92a7af9447bd21ce40be528e56426c9884a6e9d2fbe67a6031d98"},
	} {
		h, ok := key("a").Shared(x.public)
		if !ok || hex.EncodeToString(h[:]) != x.want {
			t.Errorf("Shared(%d) = %x, %v", x.public, h, ok)
		}
	}
}

func TestP3_2SharedOfNone(t *testing.T) {
	k := key("a")
	for _, y := range none() {
		if h, ok := k.Shared(y); ok || h != (api.Hash{}) {
			t.Errorf("Shared(%d) = %x, %v", y, h, ok)
		}
	}
	if k.Uses() != 0 {
		t.Errorf("Uses %d, nothing was told", k.Uses())
	}
}

func TestP3_2Uses(t *testing.T) {
	k := key("a")
	for i := range 5 {
		if k.Uses() != i {
			t.Errorf("Uses %d, want %d", k.Uses(), i)
		}
		k.Shared(4)
		k.Shared(1)
	}
	k.Public()
	if k.Uses() != 5 || key("a").Uses() != 0 {
		t.Errorf("Uses %d, and of another one %d", k.Uses(), key("a").Uses())
	}
}

func TestP3_2UsesOfManyAtOnce(t *testing.T) {
	k := key("a")
	want, _ := key("a").Shared(16)
	var all sync.WaitGroup
	begin := make(chan int)
	for range 8 {
		all.Go(func() {
			<-begin
			for range 5000 {
				if h, ok := k.Shared(16); !ok || h != want {
					t.Error("Shared tells something else")
				}
				k.Shared(0)
			}
		})
	}
	close(begin)
	all.Wait()
	if k.Uses() != 40000 {
		t.Errorf("Uses %d, want 40000", k.Uses())
	}
}

func TestP3_3BothShareOneHash(t *testing.T) {
	for i := range 40 {
		a, b := pair.From(sponge.Sum([]byte{byte(i)})), pair.From(sponge.Sum([]byte{byte(i), 1}))
		x, ok := a.Shared(b.Public())
		y, also := b.Shared(a.Public())
		if !ok || !also || x != y {
			t.Errorf("%d: %x %x", i, x, y)
		}
		want := sponge.Derive(api.Hash{}, "share", pair.Four(power.Pow(b.Public(), a.Secret())))
		if x != want {
			t.Errorf("%d: %x, want %x", i, x, want)
		}
	}
}

func TestP3_3NilKey(t *testing.T) {
	var k *pair.Key
	h, ok := k.Shared(4)
	if ok || h != (api.Hash{}) {
		t.Error("a nil Key shares something")
	}
	if k.Secret() != 0 || k.Public() != 0 || k.Made() || k.Uses() != 0 {
		t.Error("a nil Key has something")
	}
}

func TestW1ZeroKeyEnds(t *testing.T) {
	k := new(pair.Key)
	k.Shared(4)
	k.Shared(-1)
	k.Public()
	k.Made()
	k.Uses()
	k.Secret()
}
