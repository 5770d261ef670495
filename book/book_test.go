package book_test

import (
	"math"
	"sync"
	"testing"

	"curia/api"
	"curia/book"
)

// paper is a paper for a number.
func paper(n int) api.Hash { return api.Hash{byte(n), byte(n >> 8), 7} }

// filled is a book of n lines, of epochs 0 to n - 1, of which some stay.
func filled(t *testing.T, n, stay int) *book.Book {
	t.Helper()
	b := book.New()
	for i := range n {
		if i == stay && i > 0 {
			b.Flush()
		}
		if err := b.Write(i, paper(i)); err != api.OK {
			t.Fatalf("Write %d: %v", i, err)
		}
	}
	if n == stay && n > 0 {
		b.Flush()
	}
	return b
}

// holds tells of a book that does not hold just the lines 0 to n - 1.
func holds(t *testing.T, what string, b *book.Book, n int) {
	t.Helper()
	if b.Len() != n {
		t.Errorf("%s: Len %d, want %d", what, b.Len(), n)
	}
	for i := range n + 5 {
		p, ok := b.Holds(i)
		if ok != (i < n) || ok && p != paper(i) || !ok && p != (api.Hash{}) {
			t.Errorf("%s: Holds(%d) = %x, %v", what, i, p, ok)
		}
	}
}

func TestP11_1Write(t *testing.T) {
	b := book.New()
	holds(t, "new", b, 0)
	for i, x := range []struct {
		epoch int
		paper api.Hash
		want  api.Errno
		lines int
	}{
		{3, paper(1), api.OK, 1},
		{3, paper(1), api.OK, 1},
		{3, paper(2), api.ErrLock, 1},
		{3, api.Hash{}, api.ErrLock, 1},
		{0, api.Hash{}, api.OK, 2},
		{0, api.Hash{}, api.OK, 2},
		{0, paper(1), api.ErrLock, 2},
		{api.MaxEpoch, paper(1), api.OK, 3},
		{api.MaxEpoch + 1, paper(1), api.ErrArg, 3},
		{-1, paper(1), api.ErrArg, 3},
		{math.MaxInt, paper(1), api.ErrArg, 3},
		{math.MinInt, paper(1), api.ErrArg, 3},
		{1, paper(1), api.OK, 4},
		{3, paper(2), api.ErrLock, 4},
		{3, paper(1), api.OK, 4},
	} {
		if err := b.Write(x.epoch, x.paper); err != x.want || b.Len() != x.lines {
			t.Errorf("%d: %v, Len %d", i, err, b.Len())
		}
	}
	for epoch, want := range map[int]api.Hash{3: paper(1), 0: {}, api.MaxEpoch: paper(1), 1: paper(1)} {
		if p, ok := b.Holds(epoch); p != want || !ok {
			t.Errorf("Holds(%d) = %x, %v", epoch, p, ok)
		}
	}
	for _, epoch := range []int{2, 4, -1, api.MaxEpoch + 1, math.MaxInt, math.MinInt} {
		if p, ok := b.Holds(epoch); p != (api.Hash{}) || ok {
			t.Errorf("Holds(%d) = %x, %v", epoch, p, ok)
		}
	}
}

func TestP11_1WriteToAFullBook(t *testing.T) {
	b := filled(t, api.MaxBook-1, 0)
	if err := b.Write(api.MaxBook-1, paper(api.MaxBook-1)); err != api.OK {
		t.Errorf("the last one: %v", err)
	}
	for i, x := range []struct {
		epoch int
		paper api.Hash
		want  api.Errno
	}{
		{api.MaxBook, paper(1), api.ErrFull},
		{5, paper(5), api.OK},
		{5, paper(6), api.ErrLock},
		{-1, paper(6), api.ErrArg},
		{api.MaxEpoch + 1, paper(6), api.ErrArg},
		{api.MaxEpoch, paper(6), api.ErrFull},
	} {
		if err := b.Write(x.epoch, x.paper); err != x.want {
			t.Errorf("%d: %v, want %v", i, err, x.want)
		}
	}
	holds(t, "full", b, api.MaxBook)
	after := b.Crash(10)
	if err := after.Write(500, paper(1)); err != api.OK {
		t.Errorf("where there is room again: %v", err)
	}
}

func TestP11_2Crash(t *testing.T) {
	for n := range 8 {
		for stay := range n + 1 {
			for keep := -3; keep < n+4; keep++ {
				b := filled(t, n, stay)
				after := b.Crash(keep)
				left := stay + min(max(keep, 0), n-stay)
				holds(t, "behind the crash", after, left)
				holds(t, "behind the crash, and one where all stays", after.Crash(0), left)
				holds(t, "the book itself", b, n)
				holds(t, "the book itself, crashed again", b.Crash(0), stay)
			}
		}
	}
	b := filled(t, 6, 2)
	for keep, left := range map[int]int{math.MaxInt: 6, math.MaxInt - 1: 6, math.MinInt: 2, math.MinInt + 1: 2, 1 << 40: 6} {
		holds(t, "numbers far off", b.Crash(keep), left)
	}
}

func TestP11_2BooksArePartedByACrash(t *testing.T) {
	b := filled(t, 4, 2)
	after := b.Crash(1)
	if err := after.Write(3, paper(33)); err != api.OK {
		t.Errorf("what was lost is free again: %v", err)
	}
	if err := b.Write(4, paper(4)); err != api.OK {
		t.Errorf("the book goes on: %v", err)
	}
	b.Flush()
	holds(t, "the book", b, 5)
	holds(t, "the book, flushed", b.Crash(0), 5)
	if p, ok := after.Holds(3); p != paper(33) || !ok || after.Len() != 4 {
		t.Errorf("the other one: %x, %v, Len %d", p, ok, after.Len())
	}
	holds(t, "the other one, not flushed", after.Crash(0), 3)
}

func TestP11_2Flushes(t *testing.T) {
	b := book.New()
	for i := range 5 {
		if b.Flushes() != i {
			t.Errorf("Flushes %d, want %d", b.Flushes(), i)
		}
		b.Flush()
	}
	b.Write(1, paper(1))
	b.Len()
	b.Holds(1)
	after := b.Crash(1)
	if b.Flushes() != 5 || after.Flushes() != 0 {
		t.Errorf("Flushes %d, and of the other one %d", b.Flushes(), after.Flushes())
	}
	after.Flush()
	if b.Flushes() != 5 || after.Flushes() != 1 {
		t.Errorf("Flushes %d, and of the other one %d", b.Flushes(), after.Flushes())
	}
}

func TestP11_2FlushesOfManyAtOnce(t *testing.T) {
	b := filled(t, 3, 0)
	var all sync.WaitGroup
	begin := make(chan int)
	for range 8 {
		all.Go(func() {
			<-begin
			for range 50000 {
				b.Flush()
			}
		})
	}
	close(begin)
	all.Wait()
	if b.Flushes() != 400000 {
		t.Errorf("Flushes %d, want 400000", b.Flushes())
	}
	holds(t, "flushed", b.Crash(0), 3)
}

func TestP11_3AtMostOnePaperAnEpoch(t *testing.T) {
	b := book.New()
	seen := map[int]api.Hash{}
	x := 1
	for range 5000 {
		x = x * 48271 % api.P
		epoch, p := x%20, paper(x/20%3)
		switch x / 100 % 8 {
		case 0:
			b.Flush()
		case 1:
			b = b.Crash(x / 1000 % 3)
			for e := range 20 {
				p, ok := b.Holds(e)
				if ok && p != seen[e] {
					t.Fatalf("epoch %d: another paper behind a crash", e)
				}
				if !ok {
					delete(seen, e)
				}
			}
		default:
			old, ok := seen[epoch]
			err := b.Write(epoch, p)
			if ok && old != p && err != api.ErrLock || ok && old == p && err != api.OK || !ok && err != api.OK {
				t.Fatalf("epoch %d: %v", epoch, err)
			}
			if !ok {
				seen[epoch] = p
			}
		}
		if b.Len() != len(seen) {
			t.Fatalf("Len %d, want %d", b.Len(), len(seen))
		}
	}
}

func TestP11_3FlushedStays(t *testing.T) {
	b := filled(t, 5, 5)
	for _, keep := range []int{0, 1, -1, 100} {
		b = b.Crash(keep)
		for i := range 5 {
			if err := b.Write(i, paper(i+1)); err != api.ErrLock {
				t.Errorf("epoch %d takes another paper: %v", i, err)
			}
		}
	}
	holds(t, "many crashes", b, 5)
}

func TestP11_3NilBook(t *testing.T) {
	var b *book.Book
	b.Flush()
	if err := b.Write(1, paper(1)); err != api.ErrArg {
		t.Errorf("Write: %v", err)
	}
	if p, ok := b.Holds(1); p != (api.Hash{}) || ok {
		t.Error("Holds something")
	}
	if b.Len() != 0 || b.Flushes() != 0 || b.Crash(1) != nil || b.Crash(0) != nil {
		t.Error("a nil Book has something")
	}
}

func TestW1ZeroBook(t *testing.T) {
	b := new(book.Book)
	b.Flush()
	b.Write(1, paper(1))
	b.Holds(1)
	b.Crash(1).Crash(1)
	b.Len()
	b.Flushes()
}
