package note_test

import (
	"bytes"
	"math"
	"slices"
	"strconv"
	"testing"

	"bypath/api"
	"bypath/frame"
	"bypath/note"
)

// mostData is how many bytes of data a note has at most.
const mostData = 4075

// code names each code.
var code = map[int]string{1: "head", 2: "open", 3: "update", 4: "hold", 5: "state", 6: "cease"}

func filled(n int) []byte {
	b := make([]byte, n)
	for i := range b {
		b[i] = byte(i*7 + n)
	}
	return b
}

// may are notes that may be: of all codes, the edges of each part.
func may() []api.Note {
	var l []api.Note
	for c := range code {
		for _, sub := range []int{0, 1, 10, 127, 128, 255} {
			l = append(l, api.Note{Code: c, Sub: sub}, api.Note{Code: c, Sub: sub, Data: filled(2)})
		}
		l = append(l, api.Note{Code: c, Data: []byte{}}, api.Note{Code: c, Data: filled(1)}, api.Note{Code: c, Sub: 255, Data: filled(mostData)})
	}
	return l
}

// mayNot are those that may not be.
func mayNot() []api.Note {
	l := []api.Note{
		{},
		{Sub: 3, Data: filled(2)},
		{Code: 6, Data: filled(mostData + 1)},
		{Code: 1, Sub: 1, Data: filled(1 << 16)},
	}
	for _, n := range []int{-1, 7, 255, 256, 257, 262, math.MinInt, math.MaxInt} {
		l = append(l, api.Note{Code: n, Sub: 3})
	}
	for _, n := range []int{-1, -255, 256, 257, math.MinInt, math.MaxInt} {
		l = append(l, api.Note{Code: 4, Sub: n})
	}
	return l
}

// P8.1: what may be, its message, and its name.
func TestMay(t *testing.T) {
	for _, n := range may() {
		m, e := note.Put(n)
		if note.Check(n) != api.OK || e != api.OK || m.Type != api.TypeNote || !bytes.Equal(m.Body, slices.Concat([]byte{byte(n.Code), byte(n.Sub)}, n.Data)) {
			t.Error(n.Code, n.Sub, len(n.Data), e, m.Type, len(m.Body))
		}
		if frame.Check(m) != api.OK {
			t.Error("no message", n.Code, n.Sub, len(n.Data))
		}
		if s := note.Name(n); s != code[n.Code]+" "+strconv.Itoa(n.Sub) {
			t.Error(n.Code, n.Sub, s)
		}
	}
	m, _ := note.Put(api.Note{Code: 4})
	if !bytes.Equal(m.Body, []byte{4, 0}) || note.Name(api.Note{Code: 4}) != "hold 0" {
		t.Error(m.Body)
	}
}

// P8.1: what may not be is refused, and has no name.
func TestMayNot(t *testing.T) {
	for _, n := range mayNot() {
		m, e := note.Put(n)
		if note.Check(n) != api.ErrNote || e != api.ErrNote || m.Type != 0 || len(m.Body) != 0 || note.Name(n) != "" {
			t.Error(n.Code, n.Sub, len(n.Data), e, m.Type, len(m.Body), note.Name(n))
		}
	}
}

// P8.1: all first bytes, and the lengths at the edges.
func TestGet(t *testing.T) {
	for c := range 256 {
		for _, size := range []int{2, 3, 100, 4076, 4077, 4078, 5000, 1 << 16} {
			b := filled(size)
			b[0] = byte(c)
			n, e := note.Get(b)
			if code[c] == "" || size > 4077 {
				if e != api.ErrNote || n.Code != 0 || n.Sub != 0 || len(n.Data) != 0 {
					t.Error(c, size, n.Code, n.Sub, len(n.Data), e)
				}
			} else if e != api.OK || n.Code != c || n.Sub != int(b[1]) || !bytes.Equal(n.Data, b[2:]) {
				t.Error(c, size, n.Code, n.Sub, len(n.Data), e)
			}
		}
		if n, e := note.Get([]byte{byte(c)}); e != api.ErrNote || n.Code != 0 {
			t.Error(c, n, e)
		}
	}
	for _, b := range [][]byte{nil, {}} {
		if n, e := note.Get(b); e != api.ErrNote || n.Code != 0 {
			t.Error(n, e)
		}
	}
}

// P8.1: each part counts; data nil and empty are alike; notes that may not be are held against each other too.
func TestSame(t *testing.T) {
	l := []api.Note{
		{}, {Code: 1}, {Code: 2}, {Code: -1}, {Code: 257},
		{Code: 1, Sub: 1}, {Code: 1, Sub: 256}, {Code: 1, Sub: 257}, {Code: 1, Sub: -255}, {Sub: 1},
		{Code: 1, Data: []byte{0}}, {Code: 1, Data: []byte{1}}, {Code: 1, Data: []byte{1, 0}}, {Code: 1, Data: []byte{0, 1}}, {Data: []byte{1}},
		{Code: 1, Data: filled(mostData + 1)}, {Code: 1, Data: filled(mostData + 2)},
	}
	for i, a := range l {
		for j, b := range l {
			b.Data = slices.Clone(b.Data)
			if note.Same(a, b) != (i == j) {
				t.Error(i, j)
			}
		}
	}
	if !note.Same(api.Note{Code: 3, Data: nil}, api.Note{Code: 3, Data: []byte{}}) {
		t.Error("nil and empty")
	}
}

// P8.2: what is put is got.
func TestPutIsGot(t *testing.T) {
	for _, n := range may() {
		m, e := note.Put(n)
		if g, f := note.Get(m.Body); e != api.OK || f != api.OK || !note.Same(n, g) {
			t.Error(n.Code, n.Sub, len(n.Data), e, f, g.Code, g.Sub, len(g.Data))
		}
	}
}

// P8.1 with R3: nothing that is handed in is changed or kept, nor is what lies behind its end.
func TestShares(t *testing.T) {
	in := []byte{1, 2, 3, 4, 5}
	m, _ := note.Put(api.Note{Code: 6, Sub: 2, Data: in[:3]})
	clear(m.Body)
	_ = append(m.Body, 90)
	n, _ := note.Get(in[:4])
	clear(n.Data)
	_ = append(n.Data, 91)
	if !bytes.Equal(in, []byte{1, 2, 3, 4, 5}) {
		t.Error(in)
	}
	n, _ = note.Get(in)
	m, _ = note.Put(n)
	clear(in)
	if !bytes.Equal(n.Data, []byte{3, 4, 5}) || !bytes.Equal(m.Body, []byte{1, 2, 3, 4, 5}) {
		t.Error(n, m)
	}
}

// R1, P8.2: any bytes at all; what is got may be, and is put as it was.
func FuzzGet(f *testing.F) {
	f.Add([]byte{4, 0})
	f.Add([]byte{7, 1, 2})
	f.Add([]byte{1, 2, 0, 5})
	f.Fuzz(func(t *testing.T, b []byte) {
		n, e := note.Get(b)
		if e != api.OK {
			if e != api.ErrNote || note.Name(n) != "" || !note.Same(n, api.Note{}) {
				t.Error(n, e)
			}
			return
		}
		if m, e := note.Put(n); e != api.OK || !bytes.Equal(m.Body, b) || note.Name(n) == "" {
			t.Error(n, e, m)
		}
	})
}
