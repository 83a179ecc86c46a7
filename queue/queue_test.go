package queue_test

import (
	"bytes"
	"math"
	"slices"
	"testing"

	"bypath/api"
	"bypath/queue"
)

// filled is n bytes, unlike from begin on.
func filled(n, begin int) []byte {
	b := make([]byte, n)
	for i := range b {
		b[i] = byte((begin + i) * 7)
	}
	return b
}

func made(t *testing.T, room int) *queue.Queue {
	t.Helper()
	q, e := queue.New(room)
	if e != api.OK || q == nil {
		t.Fatal(room, e)
	}
	return q
}

// holds asks all that looks at q: its bytes, how many these are, and how many more there may be.
func holds(t *testing.T, q *queue.Queue, room int, b []byte) {
	t.Helper()
	if q.Len() != len(b) || q.Room() != room-len(b) || !bytes.Equal(q.All(), b) {
		t.Fatal(room, len(b), q.Len(), q.Room(), q.All())
	}
}

// P9.1: how much room there may be.
func TestNew(t *testing.T) {
	for _, room := range []int{0, 1, 2, 4096, 65535, 65536} {
		holds(t, made(t, room), room, nil)
	}
	for _, room := range []int{-1, 65537, 1 << 32, -1 << 32, math.MinInt, math.MaxInt} {
		if q, e := queue.New(room); q != nil || e != api.ErrArg {
			t.Error(room, q, e)
		}
	}
}

// P9.1: the document's example.
func TestExample(t *testing.T) {
	q := made(t, 3)
	if !q.Put([]byte{1, 2}) || q.Put([]byte{3, 4}) {
		t.Error("Put")
	}
	holds(t, q, 3, []byte{1, 2})
}

// P9.1: just as much as there is room for is put, at all edges, from whatever place in the ring on; else nothing.
func TestPut(t *testing.T) {
	for _, room := range []int{0, 1, 2, 7, 100, 65536} {
		for _, gone := range []int{0, 1, 5, room / 2, room - 1, room} {
			if gone < 0 || gone > room {
				continue
			}
			q := made(t, room)
			if !q.Put(filled(gone, 3)) || len(q.Take(gone)) != gone {
				t.Fatal(room, gone)
			}
			if q.Put(filled(room+1, 0)) || q.Put(make([]byte, 1<<20)) {
				t.Error("beyond", room, gone)
			}
			holds(t, q, room, nil)
			all := filled(room, 9)
			if !q.Put(all) {
				t.Error("just so much", room, gone)
			}
			holds(t, q, room, all)
			if q.Put([]byte{1}) || q.Put(all) != (room == 0) || !q.Put(nil) || !q.Put([]byte{}) {
				t.Error("full", room, gone)
			}
			holds(t, q, room, all)
		}
	}
}

// P9.1: where a part of b has room, nothing of it is taken.
func TestPutWhole(t *testing.T) {
	q := made(t, 10)
	q.Put(filled(6, 0))
	for _, n := range []int{5, 6, 10, 11, 65536, 65537} {
		if q.Put(filled(n, 50)) {
			t.Error(n)
		}
		holds(t, q, 10, filled(6, 0))
	}
	if !q.Put(filled(4, 6)) {
		t.Error("just so much")
	}
	holds(t, q, 10, filled(10, 0))
}

// P9.1: how many are taken, and that they are gone.
func TestTake(t *testing.T) {
	q := made(t, 20)
	for _, n := range []int{-1, 0, 1, 20, math.MinInt, math.MaxInt} {
		if b := q.Take(n); len(b) != 0 {
			t.Error(n, b)
		}
	}
	q.Put(filled(10, 0))
	for _, n := range []int{0, -1, -10, math.MinInt} {
		if b := q.Take(n); len(b) != 0 {
			t.Error(n, b)
		}
		holds(t, q, 20, filled(10, 0))
	}
	for i, n := range []int{1, 2, 3} {
		from := []int{0, 1, 3}[i]
		if b := q.Take(n); !bytes.Equal(b, filled(n, from)) {
			t.Error(n, b)
		}
		holds(t, q, 20, filled(10-from-n, from+n))
	}
	if b := q.Take(4); !bytes.Equal(b, filled(4, 6)) {
		t.Error("all", b)
	}
	holds(t, q, 20, nil)
	for _, n := range []int{11, 20, 21, 1 << 40, math.MaxInt} {
		q.Put(filled(10, n))
		if b := q.Take(n); !bytes.Equal(b, filled(10, n)) {
			t.Error(n, b)
		}
		holds(t, q, 20, nil)
	}
}

// P9.1: a cleared queue has its whole room, and is used again.
func TestClear(t *testing.T) {
	q := made(t, 10)
	if n := q.Clear(); n != 0 {
		t.Error(n)
	}
	q.Put(filled(8, 0))
	q.Take(5)
	q.Put(filled(6, 8))
	if n := q.Clear(); n != 9 || q.Clear() != 0 || len(q.Take(10)) != 0 {
		t.Error(n)
	}
	holds(t, q, 10, nil)
	if q.Put(filled(11, 0)) || !q.Put(filled(10, 40)) {
		t.Error("room")
	}
	holds(t, q, 10, filled(10, 40))
	if n := q.Clear(); n != 10 {
		t.Error(n)
	}
}

// P9.1: a nil queue has nothing, and takes nothing.
func TestNil(t *testing.T) {
	var q *queue.Queue
	for _, b := range [][]byte{nil, {}, {1}, make([]byte, 1<<17)} {
		if q.Put(b) {
			t.Error(len(b))
		}
	}
	for _, n := range []int{-1, 0, 1, math.MinInt, math.MaxInt} {
		if b := q.Take(n); len(b) != 0 {
			t.Error(n, b)
		}
	}
	if q.Len() != 0 || q.Room() != 0 || q.Clear() != 0 || len(q.All()) != 0 {
		t.Error(q.Len(), q.Room(), q.Clear(), q.All())
	}
}

// P9.1 with R4: queues have nothing in common.
func TestOthers(t *testing.T) {
	a, b := made(t, 5), made(t, 5)
	a.Put([]byte{1, 2, 3})
	holds(t, b, 5, nil)
	b.Put([]byte{4})
	a.Clear()
	holds(t, b, 5, []byte{4})
	holds(t, a, 5, nil)
}

// P9.1 with R3: nothing that is handed in is changed or kept, and no answer is what is kept, or another answer.
func TestShares(t *testing.T) {
	q := made(t, 12)
	in := filled(8, 0)
	q.Put(in[:4])
	q.Put(in[4:6])
	if !bytes.Equal(in, filled(8, 0)) {
		t.Error("changed", in)
	}
	clear(in)
	holds(t, q, 12, filled(6, 0))
	all, again := q.All(), q.All()
	clear(all)
	_ = append(all, 90, 91, 92)
	if !bytes.Equal(again, filled(6, 0)) {
		t.Error("answers share", again)
	}
	holds(t, q, 12, filled(6, 0))
	b := q.Take(3)
	clear(b)
	_ = append(b, 93, 94, 95, 96)
	holds(t, q, 12, filled(3, 3))
	c := q.Take(2)
	q.Put(filled(11, 60))
	q.Clear()
	q.Put(filled(12, 80))
	if !bytes.Equal(c, filled(2, 3)) || !bytes.Equal(again, filled(6, 0)) {
		t.Error("an answer was changed", c, again)
	}
}

// next is a number of a fixed sequence.
func next(seed *uint64) int {
	*seed = *seed*6364136223846793005 + 1442695040888963407
	return int(*seed >> 40)
}

// P9.2: whatever is put and taken, from all places in rings of all ages, what was put comes out once, in order.
func TestInOrder(t *testing.T) {
	seed := uint64(9)
	for _, room := range []int{0, 1, 2, 3, 8, 17, 64, 1000, 4096, 65536} {
		for most := 1; most <= room+1; most = most*3 + 1 {
			runQueue(t, room, 400, func(k int) (int, int) { return next(&seed) % 8, next(&seed) % (most + 1) })
		}
	}
}

// runQueue holds a queue against a list that bytes are appended to and cut from. What is done is told by a number below 8, and how many bytes.
func runQueue(t *testing.T, room, steps int, what func(k int) (int, int)) {
	t.Helper()
	q := made(t, room)
	var list, put, came []byte
	for k := range steps {
		do, n := what(k)
		switch {
		case do < 4:
			b := filled(n, len(put))
			is := q.Put(b)
			if is != (n <= room-len(list)) {
				t.Fatal(room, k, n, is)
			}
			if is {
				list, put = append(list, b...), append(put, b...)
			}
		case do < 7:
			b := q.Take(n)
			m := min(n, len(list))
			if !bytes.Equal(b, list[:m]) {
				t.Fatal(room, k, n)
			}
			list, came = list[m:], append(came, b...)
		case k%5 == 0:
			if q.Clear() != len(list) {
				t.Fatal(room, k)
			}
			list, put = nil, slices.Clone(came)
		}
		holds(t, q, room, list)
	}
	if !bytes.Equal(append(came, q.Take(room)...), put) {
		t.Fatal("not once, or not in order", room)
	}
}

// P9.2: the greatest queue goes round several times, message by message.
func TestLong(t *testing.T) {
	q := made(t, api.MaxQueue)
	var put, came []byte
	for i := range 200 {
		b := filled(19+i*20%4077, i)
		for !q.Put(b) {
			came = append(came, q.Take(1000)...)
		}
		put = append(put, b...)
	}
	came = append(came, q.All()...)
	if !bytes.Equal(put, came) || len(put) < 3*api.MaxQueue {
		t.Error(len(put), len(came))
	}
}

// R1, P9.2: any steps at all.
func FuzzQueue(f *testing.F) {
	f.Add(3, []byte{2, 2, 4, 1})
	f.Add(10, []byte{0, 10, 5, 3, 1, 3, 7, 0, 0, 9})
	f.Add(65536, []byte{0, 255, 4, 200, 0, 255})
	f.Fuzz(func(t *testing.T, room int, b []byte) {
		if q, e := queue.New(room); e != api.OK {
			if q != nil || e != api.ErrArg || room >= 0 && room <= 65536 {
				t.Error(room, q, e)
			}
			return
		}
		if len(b) > 400 {
			return
		}
		runQueue(t, room, len(b)/2, func(k int) (int, int) { return int(b[2*k]) % 8, int(b[2*k+1]) * (1 + int(b[2*k])/8) })
	})
}
