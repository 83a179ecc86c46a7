package frame_test

import (
	"bytes"
	"math"
	"slices"
	"testing"

	"bypath/api"
	"bypath/frame"
)

const room = 65536

func filled(n int) []byte {
	b := make([]byte, n)
	for i := range b {
		b[i] = byte(i*7 + n)
	}
	return b
}

// head is 19 bytes of that length and type.
func head(length int, kind byte) []byte {
	b := bytes.Repeat([]byte{255}, 16)
	return append(b, byte(length>>8), byte(length), kind)
}

// good are messages that may be: of all types, the least and the greatest.
func good() []api.Message {
	return []api.Message{
		{Type: api.TypeOpen, Body: filled(10)},
		{Type: api.TypeOpen, Body: filled(29)},
		{Type: api.TypeOpen, Body: filled(4077)},
		{Type: api.TypeUpdate, Body: filled(4)},
		{Type: api.TypeUpdate, Body: bytes.Repeat([]byte{255}, 300)},
		{Type: api.TypeUpdate, Body: filled(4077)},
		{Type: api.TypeNote, Body: []byte{6, 2}},
		{Type: api.TypeNote, Body: filled(4077)},
		{Type: api.TypeKeep},
		{Type: api.TypeKeep, Body: []byte{}},
	}
}

// bad are messages that may not be.
func bad() []api.Message {
	return []api.Message{
		{},
		{Type: 0, Body: filled(10)},
		{Type: 5, Body: filled(10)},
		{Type: 5},
		{Type: -1, Body: filled(10)},
		{Type: 256 + api.TypeKeep},
		{Type: math.MinInt},
		{Type: math.MaxInt},
		{Type: api.TypeOpen},
		{Type: api.TypeOpen, Body: filled(9)},
		{Type: api.TypeOpen, Body: filled(4078)},
		{Type: api.TypeUpdate, Body: filled(3)},
		{Type: api.TypeUpdate, Body: filled(4078)},
		{Type: api.TypeNote, Body: filled(1)},
		{Type: api.TypeNote, Body: filled(4078)},
		{Type: api.TypeNote, Body: filled(1 << 20)},
		{Type: api.TypeKeep, Body: filled(1)},
		{Type: api.TypeKeep, Body: filled(4077)},
		{Type: api.TypeKeep, Body: filled(4078)},
	}
}

func same(m, n api.Message) bool { return m.Type == n.Type && bytes.Equal(m.Body, n.Body) }

func none(n api.Note) bool { return n.Code == 0 && n.Sub == 0 && len(n.Data) == 0 }

func empty(m api.Message) bool { return m.Type == 0 && m.Body == nil }

// put is the bytes of messages, one behind the other.
func put(t *testing.T, l ...api.Message) []byte {
	t.Helper()
	var all []byte
	for _, m := range l {
		b, e := frame.Put(m)
		if e != api.OK {
			t.Fatal(m.Type, len(m.Body), e)
		}
		all = append(all, b...)
	}
	return all
}

// P3.1: what may be, and its bytes.
func TestGood(t *testing.T) {
	for _, m := range good() {
		if e := frame.Check(m); e != api.OK {
			t.Error("Check", m.Type, len(m.Body), e)
		}
		b, e := frame.Put(m)
		if want := append(head(19+len(m.Body), byte(m.Type)), m.Body...); e != api.OK || !bytes.Equal(b, want) {
			t.Error("Put", m.Type, len(m.Body), e)
		}
		if kind, n, note := frame.Head(b); kind != m.Type || n != len(b) || !none(note) {
			t.Error("Head", m.Type, len(m.Body), kind, n, note)
		}
	}
	if b := put(t, api.Message{Type: api.TypeKeep}); !bytes.Equal(b, []byte{255, 255, 255, 255, 255, 255, 255, 255, 255, 255, 255, 255, 255, 255, 255, 255, 0, 19, 4}) {
		t.Error(b)
	}
}

// P3.1: what may not be is refused by both.
func TestBad(t *testing.T) {
	for _, m := range bad() {
		if e := frame.Check(m); e != api.ErrFrame {
			t.Error("Check", m.Type, len(m.Body), e)
		}
		if b, e := frame.Put(m); len(b) != 0 || e != api.ErrFrame {
			t.Error("Put", m.Type, len(m.Body), len(b), e)
		}
	}
}

// P3.1 with R3: a body is neither changed nor kept, nor is what lies behind its end.
func TestPutShares(t *testing.T) {
	in := []byte{1, 2, 3, 4, 5, 6}
	b, _ := frame.Put(api.Message{Type: api.TypeUpdate, Body: in[:4]})
	for i := range b {
		b[i] = 90
	}
	_ = append(b, 91)
	if !bytes.Equal(in, []byte{1, 2, 3, 4, 5, 6}) {
		t.Error(in)
	}
	again := put(t, api.Message{Type: api.TypeUpdate, Body: in[:4]})
	if !bytes.Equal(again, append(head(23, 2), 1, 2, 3, 4)) {
		t.Error(again)
	}
}

// P3.1: of each type just the lengths that may be, of all that two bytes can tell.
func TestHeadLengths(t *testing.T) {
	for kind, least := range map[byte]int{1: 29, 2: 23, 3: 21, 4: 19} {
		most := 4096
		if kind == api.TypeKeep {
			most = 19
		}
		for n := 0; n <= 65535; n++ {
			k, got, note := frame.Head(head(n, kind))
			if n >= least && n <= most {
				if k != int(kind) || got != n || !none(note) {
					t.Fatal(kind, n, k, got, note)
				}
			} else if k != 0 || got != 0 || note.Code != 1 || note.Sub != 2 || !bytes.Equal(note.Data, []byte{byte(n >> 8), byte(n)}) {
				t.Fatal(kind, n, k, got, note)
			}
		}
	}
}

// P3.1: each byte of the mark, and each type.
func TestHeadWrong(t *testing.T) {
	for i := 0; i < 16; i++ {
		for _, x := range []byte{0, 1, 127, 254} {
			b := head(19, 4)
			b[i] = x
			if k, n, note := frame.Head(b); k != 0 || n != 0 || note.Code != 1 || note.Sub != 1 || len(note.Data) != 0 {
				t.Error(i, x, k, n, note)
			}
		}
	}
	for kind := 0; kind <= 255; kind++ {
		k, n, note := frame.Head(head(100, byte(kind)))
		switch {
		case kind >= 1 && kind <= 3:
			if k != kind || n != 100 || !none(note) {
				t.Error(kind, k, n, note)
			}
		case kind != 4:
			if k != 0 || n != 0 || note.Code != 1 || note.Sub != 3 || !bytes.Equal(note.Data, []byte{byte(kind)}) {
				t.Error(kind, k, n, note)
			}
		}
	}
}

// P3.1: of several things that are wrong the one that is named first.
func TestHeadOrder(t *testing.T) {
	all := head(5, 9)
	all[15] = 0
	for _, x := range []struct {
		b    []byte
		sub  int
		data []byte
	}{
		{all, 1, nil},
		{make([]byte, 19), 1, nil},
		{head(5, 9), 3, []byte{9}},
		{head(65535, 0), 3, []byte{0}},
		{head(5, 4), 2, []byte{0, 5}},
	} {
		if k, n, note := frame.Head(x.b); k != 0 || n != 0 || note.Code != 1 || note.Sub != x.sub || !bytes.Equal(note.Data, x.data) {
			t.Error(x, k, n, note)
		}
	}
}

// P3.1: fewer bytes than a head's tell nothing, even if they are wrong already; what is behind 19 is not looked at.
func TestHeadSize(t *testing.T) {
	for _, b := range [][]byte{head(29, 1), head(19, 4), head(5, 9), make([]byte, 19)} {
		for n := 0; n < 19; n++ {
			if k, got, note := frame.Head(b[:n]); k != 0 || got != 0 || !none(note) {
				t.Error(b[:n], k, got, note)
			}
		}
	}
	if k, n, note := frame.Head(nil); k != 0 || n != 0 || !none(note) {
		t.Error(k, n, note)
	}
	if k, n, note := frame.Head(append(head(29, 1), 0, 0)); k != 1 || n != 29 || !none(note) {
		t.Error(k, n, note)
	}
	if k, n, note := frame.Head(append(head(19, 4), filled(9000)...)); k != 4 || n != 19 || !none(note) {
		t.Error(k, n, note)
	}
}

// P3.1: a note's data is not what was handed in.
func TestHeadShares(t *testing.T) {
	b := head(5, 4)
	_, _, note := frame.Head(b)
	note.Data[0] = 90
	_ = append(note.Data, 91)
	if !bytes.Equal(b, head(5, 4)) {
		t.Error(b)
	}
}

// nextIs takes one message, which must be m.
func nextIs(t *testing.T, s *frame.Stream, m api.Message) {
	t.Helper()
	ahead := s.Len()
	got, is, note := s.Next()
	if !is || !none(note) || !same(got, m) || s.Len() != ahead-19-len(m.Body) {
		t.Fatal(m.Type, len(m.Body), is, note, got.Type, len(got.Body), s.Len())
	}
}

// nothing asks for a message where there is none yet.
func nothing(t *testing.T, s *frame.Stream, left int) {
	t.Helper()
	if m, is, note := s.Next(); !empty(m) || is || !none(note) || s.Len() != left {
		t.Fatal(m.Type, is, note, s.Len())
	}
}

// P3.2: a message is there just when its last byte is.
func TestStream(t *testing.T) {
	s := frame.New()
	nothing(t, s, 0)
	for _, m := range good() {
		for i, x := range put(t, m) {
			nothing(t, s, i)
			if e := s.Feed([]byte{x}); e != api.OK || s.Len() != i+1 {
				t.Fatal(e, s.Len())
			}
			if e := s.Feed(nil); e != api.OK || s.Len() != i+1 {
				t.Fatal(e, s.Len())
			}
		}
		nextIs(t, s, m)
		nothing(t, s, 0)
	}
}

// P3.2: messages and the beginning of one more in one piece.
func TestStreamSome(t *testing.T) {
	s := frame.New()
	l := good()
	last := put(t, l[1])
	b := append(put(t, l...), last[:20]...)
	if e := s.Feed(b); e != api.OK || s.Len() != len(b) {
		t.Fatal(e, s.Len())
	}
	for _, m := range l {
		nextIs(t, s, m)
	}
	nothing(t, s, 20)
	nothing(t, s, 20)
	s.Feed(last[20:])
	nextIs(t, s, l[1])
	nothing(t, s, 0)
}

// P3.2: 65536 bytes have room, one more has not, and then none is taken.
func TestStreamFull(t *testing.T) {
	keep := api.Message{Type: api.TypeKeep}
	long := api.Message{Type: api.TypeUpdate, Body: filled(4077)}
	all := put(t, slices.Repeat([]api.Message{long}, 16)...)
	if len(all) != room {
		t.Fatal(len(all))
	}
	s := frame.New()
	if e := s.Feed(append(all, 255)); e != api.ErrFull || s.Len() != 0 {
		t.Fatal(e, s.Len())
	}
	if e := s.Feed(make([]byte, 1<<20)); e != api.ErrFull || s.Len() != 0 {
		t.Fatal(e, s.Len())
	}
	if e := s.Feed(all); e != api.OK || s.Len() != room {
		t.Fatal(e, s.Len())
	}
	if e := s.Feed([]byte{255}); e != api.ErrFull || s.Len() != room {
		t.Fatal(e, s.Len())
	}
	if e := s.Feed(nil); e != api.OK || s.Len() != room {
		t.Fatal(e, s.Len())
	}
	nextIs(t, s, long)
	if e := s.Feed(all[:4097]); e != api.ErrFull || s.Len() != room-4096 {
		t.Fatal(e, s.Len())
	}
	if e := s.Feed(put(t, keep)); e != api.OK || s.Len() != room-4096+19 {
		t.Fatal(e, s.Len())
	}
	for range 15 {
		nextIs(t, s, long)
	}
	nextIs(t, s, keep)
	nothing(t, s, 0)
}

// P3.2: a wrong head behind a message: its note for good, no bytes, and none come in any more.
func TestStreamWrong(t *testing.T) {
	marked := head(19, 4)
	marked[0] = 0
	for _, x := range []struct {
		b    []byte
		sub  int
		data []byte
	}{
		{marked, 1, nil},
		{head(19, 5), 3, []byte{5}},
		{head(4097, 2), 2, []byte{16, 1}},
		{head(20, 4), 2, []byte{0, 20}},
	} {
		s := frame.New()
		first := api.Message{Type: api.TypeNote, Body: []byte{6, 2}}
		s.Feed(append(put(t, first), x.b[:18]...))
		nextIs(t, s, first)
		nothing(t, s, 18) // a head that is not there whole is not wrong yet
		if e := s.Feed(append(x.b[18:], put(t, first)...)); e != api.OK {
			t.Fatal(e)
		}
		for range 3 {
			m, is, note := s.Next()
			if !empty(m) || is || note.Code != 1 || note.Sub != x.sub || !bytes.Equal(note.Data, x.data) || s.Len() != 0 {
				t.Fatal(m.Type, is, note, s.Len())
			}
			for i := range note.Data { // what was answered is not what is kept
				note.Data[i] = 90
			}
			for _, b := range [][]byte{nil, put(t, first), make([]byte, room+1)} {
				if e := s.Feed(b); e != api.ErrClosed || s.Len() != 0 {
					t.Fatal(e, s.Len())
				}
			}
		}
	}
}

// P3.2: streams have nothing in common; a nil one has nothing at all.
func TestStreamOthers(t *testing.T) {
	a, b := frame.New(), frame.New()
	a.Feed(head(19, 9))
	a.Next()
	if e := b.Feed(head(19, 4)); e != api.OK || a.Len() != 0 {
		t.Error(e, a.Len())
	}
	nextIs(t, b, api.Message{Type: api.TypeKeep})
	var s *frame.Stream
	for _, in := range [][]byte{nil, head(19, 4), head(19, 9), make([]byte, room+1)} {
		if e := s.Feed(in); e != api.ErrClosed {
			t.Error(e)
		}
		if m, is, note := s.Next(); !empty(m) || is || !none(note) || s.Len() != 0 {
			t.Error(m, is, note, s.Len())
		}
	}
}

// P3.2 with R3: what was fed may be changed behind that, and what was told too.
func TestStreamShares(t *testing.T) {
	m := api.Message{Type: api.TypeUpdate, Body: filled(40)}
	s := frame.New()
	b := put(t, m, m)
	in := slices.Clone(b)
	s.Feed(in[:70])
	for i := range in[:70] {
		in[i] = 90
	}
	if !bytes.Equal(in[70:], b[70:]) {
		t.Error("what lies behind was changed")
	}
	s.Feed(in[70:])
	got, _, _ := s.Next()
	for i := range got.Body {
		got.Body[i] = 91
	}
	_ = append(got.Body, make([]byte, 100)...)
	nextIs(t, s, m)
	nothing(t, s, 0)
}

// next is a number of a fixed sequence.
func next(seed *uint64) int {
	*seed = *seed*6364136223846793005 + 1442695040888963407
	return int(*seed >> 40)
}

// P3.3: in whatever pieces, and whether messages are asked for at once or at the end, all are told again, in order.
func TestPieces(t *testing.T) {
	l := append(good(), good()...)
	all := put(t, l...)
	seed := uint64(1)
	for round := range 300 {
		s, k := frame.New(), 0
		most := 1 + next(&seed)%9000
		for rest := all; len(rest) > 0; {
			n := min(len(rest), next(&seed)%(most+1))
			if e := s.Feed(rest[:n]); e != api.OK {
				t.Fatal(round, e)
			}
			rest = rest[n:]
			for round%2 == 0 || len(rest) == 0 {
				m, is, note := s.Next()
				if !none(note) {
					t.Fatal(round, note)
				}
				if !is {
					break
				}
				if k == len(l) || !same(m, l[k]) {
					t.Fatal(round, k)
				}
				k++
			}
		}
		if k != len(l) || s.Len() != 0 {
			t.Fatal(round, k, s.Len())
		}
	}
}

// R1: any bytes at all; a head, and a stream that is fed with it, say the same.
func FuzzHead(f *testing.F) {
	f.Add(head(19, 4))
	f.Add(head(29, 1))
	f.Add(head(0, 0))
	f.Fuzz(func(t *testing.T, b []byte) {
		kind, n, note := frame.Head(b)
		s := frame.New()
		if len(b) > room || s.Feed(b) != api.OK {
			return
		}
		m, is, other := s.Next()
		if note.Code != other.Code || note.Sub != other.Sub || !bytes.Equal(note.Data, other.Data) {
			t.Error(note, other)
		}
		if is != (n > 0 && n <= len(b)) || is && (m.Type != kind || !bytes.Equal(put(t, m), b[:n])) {
			t.Error(kind, n, is, m)
		}
	})
}
