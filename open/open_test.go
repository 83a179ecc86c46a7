package open_test

import (
	"bytes"
	"math"
	"slices"
	"testing"

	"bypath/api"
	"bypath/frame"
	"bypath/open"
)

// good are what routers may say, at the edges of each number.
var good = []api.Open{
	{AS: 65001, Hold: 90, ID: 0x0a000001},
	{AS: 1, ID: 1},
	{AS: 1, ID: 1, Four: true},
	{AS: 23456, Hold: 3, ID: 1, Paths: 1},
	{AS: 65535, Hold: 3, ID: 1<<32 - 1, Paths: 2},
	{AS: 65535, Hold: 4, ID: 1 << 31, Four: true, Paths: 3},
	{AS: 65536, Hold: 65535, ID: 7, Four: true, Paths: 1},
	{AS: api.MaxAS, Hold: 65535, ID: 7, Four: true, Paths: 2},
	{AS: 0x01020304, Hold: 0x0506, ID: 0x0708090a, Four: true},
}

// bad are what no router may say.
var bad = []api.Open{
	{},
	{AS: 0, ID: 1},
	{AS: 0, ID: 1, Four: true},
	{AS: -1, ID: 1},
	{AS: -1, ID: 1, Four: true},
	{AS: math.MinInt, ID: 1, Four: true},
	{AS: math.MaxInt, ID: 1, Four: true},
	{AS: 65536, ID: 1},
	{AS: api.MaxAS, ID: 1},
	{AS: api.MaxAS + 1, ID: 1, Four: true},
	{AS: 1, Hold: 1, ID: 1},
	{AS: 1, Hold: 2, ID: 1},
	{AS: 1, Hold: -1, ID: 1},
	{AS: 1, Hold: 65536, ID: 1},
	{AS: 1, Hold: math.MinInt, ID: 1},
	{AS: 1, Hold: math.MaxInt, ID: 1},
	{AS: 1, Hold: 90, ID: 0},
	{AS: 1, ID: 1, Paths: -1},
	{AS: 1, ID: 1, Paths: 4},
	{AS: 1, ID: 1, Paths: math.MinInt},
	{AS: 1, ID: 1, Paths: math.MaxInt},
}

// P4.1: just what may be said is said, and put into a message.
func TestCheck(t *testing.T) {
	for _, o := range good {
		if e := open.Check(o); e != api.OK {
			t.Error(o, e)
		}
		b, _ := open.Put(o)
		m, e := open.Message(o)
		if e != api.OK || m.Type != api.TypeOpen || !bytes.Equal(m.Body, b) || frame.Check(m) != api.OK {
			t.Error(o, m, e)
		}
	}
	for _, o := range bad {
		if e := open.Check(o); e != api.ErrOpen {
			t.Error(o, e)
		}
		if b, e := open.Put(o); len(b) != 0 || e != api.ErrOpen {
			t.Error(o, b, e)
		}
		if m, e := open.Message(o); m.Type != 0 || len(m.Body) != 0 || e != api.ErrOpen {
			t.Error(o, m, e)
		}
	}
}

// P4.1: a body, byte by byte.
func TestPut(t *testing.T) {
	for _, x := range []struct {
		o api.Open
		b []byte
	}{
		{api.Open{AS: 65001, Hold: 90, ID: 0x0a000001}, []byte{4, 253, 233, 0, 90, 10, 0, 0, 1, 8, 2, 6, 1, 4, 0, 1, 0, 1}},
		{api.Open{AS: 65535, ID: 1, Four: true}, []byte{4, 255, 255, 0, 0, 0, 0, 0, 1, 14, 2, 12, 1, 4, 0, 1, 0, 1, 65, 4, 0, 0, 255, 255}},
		{api.Open{AS: 65536, ID: 1, Four: true}, []byte{4, 91, 160, 0, 0, 0, 0, 0, 1, 14, 2, 12, 1, 4, 0, 1, 0, 1, 65, 4, 0, 1, 0, 0}},
		{api.Open{AS: 258, Hold: 3, ID: 1<<32 - 1, Paths: 3}, []byte{4, 1, 2, 0, 3, 255, 255, 255, 255, 14, 2, 12, 1, 4, 0, 1, 0, 1, 69, 4, 0, 1, 1, 3}},
		{api.Open{AS: 0x01020304, Hold: 0x0506, ID: 0x0708090a, Four: true, Paths: 1}, []byte{4, 91, 160, 5, 6, 7, 8, 9, 10, 20, 2, 18, 1, 4, 0, 1, 0, 1, 65, 4, 1, 2, 3, 4, 69, 4, 0, 1, 1, 1}},
	} {
		if b, e := open.Put(x.o); e != api.OK || !bytes.Equal(b, x.b) {
			t.Error(x.o, b, e)
		}
	}
}

// part is a parameter, or a capability.
func part(kind byte, data ...byte) []byte {
	return append([]byte{kind, byte(len(data))}, data...)
}

// caps is one parameter with capabilities.
func caps(l ...[]byte) []byte { return part(2, bytes.Join(l, nil)...) }

// body is a body of AS 5, Hold 90, ID 3, with parameters.
func body(params ...[]byte) []byte {
	all := bytes.Join(params, nil)
	return append([]byte{4, 0, 5, 0, 90, 0, 0, 0, 3, byte(len(all))}, all...)
}

// notRefused tells whether an answer is another one than {} and a Note 2 with that subcode and data.
func notRefused(o api.Open, n api.Note, sub int, data ...byte) bool {
	return o != api.Open{} || n.Code != 2 || n.Sub != sub || !bytes.Equal(n.Data, data)
}

// P4.2: what is read of parameters and capabilities that may be.
func TestGet(t *testing.T) {
	plain := api.Open{AS: 5, Hold: 90, ID: 3}
	four := func(as int) api.Open { return api.Open{AS: as, Hold: 90, ID: 3, Four: true} }
	paths := func(n int) api.Open { return api.Open{AS: 5, Hold: 90, ID: 3, Paths: n} }
	for i, x := range []struct {
		b    []byte
		want api.Open
	}{
		{body(), plain},
		{body(caps()), plain},
		{body(caps(), caps(), caps()), plain},
		{body(caps(part(1, 0, 1, 0, 1))), plain},
		{body(caps(part(1), part(2), part(64, 1, 2, 3), part(0), part(255, 9))), plain}, // others, in whatever form
		{body(part(2, append([]byte{200, 251}, make([]byte, 251)...)...)), plain},       // as long as may be
		{body(caps(part(65, 1, 2, 3, 4))), four(0x01020304)},
		{body(caps(part(65, 0, 0, 0, 7))), four(7)},
		{body(caps(part(65, 255, 255, 255, 255))), four(api.MaxAS)},
		{body(caps(part(65, 0, 0, 0, 7), part(65, 0, 0, 0, 8))), four(8)},
		{body(caps(part(65, 0, 0, 0, 7)), caps(part(70), part(65, 0, 0, 0, 9))), four(9)},
		{body(caps(part(65, 0, 0, 0, 0)), caps(part(65, 0, 0, 0, 9))), four(9)}, // just the last one counts
		{body(caps(part(69))), plain},
		{body(caps(part(69, 0, 1, 1, 0))), plain},
		{body(caps(part(69, 0, 1, 1, 1))), paths(1)},
		{body(caps(part(69, 0, 1, 1, 2))), paths(2)},
		{body(caps(part(69, 0, 1, 1, 3))), paths(3)},
		{body(caps(part(69, 0, 1, 1, 4))), plain},
		{body(caps(part(69, 0, 1, 1, 255))), plain},
		{body(caps(part(69, 0, 2, 1, 3))), plain},
		{body(caps(part(69, 0, 1, 2, 3))), plain},
		{body(caps(part(69, 1, 1, 1, 3))), plain},
		{body(caps(part(69, 0, 0, 1, 1, 3, 0, 0, 0))), plain}, // at no fourth byte
		{body(caps(part(69, 0, 1, 1, 3, 0, 2, 1, 1))), paths(3)},
		{body(caps(part(69, 0, 2, 1, 1, 0, 1, 1, 2))), paths(2)},
		{body(caps(part(69, 0, 1, 1, 3, 0, 1, 1, 1))), paths(1)},
		{body(caps(part(69, 0, 1, 1, 3, 0, 1, 1, 0, 0, 1, 1, 4))), paths(3)},
		{body(caps(part(69, 0, 1, 1, 3)), caps(part(69, 0, 1, 1, 2), part(69))), paths(2)},
		{body(caps(part(69, 0, 1, 1, 1)), caps(part(65, 0, 1, 0, 0))), api.Open{AS: 65536, Hold: 90, ID: 3, Four: true, Paths: 1}},
	} {
		o, n := open.Get(x.b)
		if o != x.want || n.Code != 0 || n.Sub != 0 || len(n.Data) != 0 {
			t.Error(i, o, n)
		}
	}
}

// P4.2: of the numbers: those of 2 bytes, and a 0 in them that does not count.
func TestGetNumbers(t *testing.T) {
	set := func(at int, l ...byte) []byte {
		b := body()
		copy(b[at:], l)
		return b
	}
	for i, x := range []struct {
		b    []byte
		want api.Open
	}{
		{set(1, 255, 255), api.Open{AS: 65535, Hold: 90, ID: 3}},
		{set(1, 91, 160), api.Open{AS: 23456, Hold: 90, ID: 3}},
		{set(3, 0, 0), api.Open{AS: 5, Hold: 0, ID: 3}},
		{set(3, 0, 3), api.Open{AS: 5, Hold: 3, ID: 3}},
		{set(3, 255, 255), api.Open{AS: 5, Hold: 65535, ID: 3}},
		{set(3, 1, 2), api.Open{AS: 5, Hold: 258, ID: 3}},
		{set(5, 255, 255, 255, 255), api.Open{AS: 5, Hold: 90, ID: 1<<32 - 1}},
		{set(5, 1, 2, 3, 4), api.Open{AS: 5, Hold: 90, ID: 0x01020304}},
	} {
		if o, n := open.Get(x.b); o != x.want || n.Code != 0 {
			t.Error(i, o, n)
		}
	}
	b := body(caps(part(65, 0, 0, 0, 9)))
	b[2] = 0
	if o, n := open.Get(b); o != (api.Open{AS: 9, Hold: 90, ID: 3, Four: true}) || n.Code != 0 {
		t.Error(o, n)
	}
}

// change gives a copy of b with that byte.
func change(b []byte, at int, c byte) []byte {
	b = slices.Clone(b)
	b[at] = c
	return b
}

// P4.2: each thing that is wrong, on its own.
func TestGetWrong(t *testing.T) {
	for _, v := range []byte{0, 1, 3, 5, 255} {
		if o, n := open.Get(change(body(), 0, v)); notRefused(o, n, 1, 0, 4) {
			t.Error(v, o, n)
		}
	}
	for i, x := range []struct {
		b   []byte
		sub int
	}{
		{nil, 0},
		{[]byte{4}, 0},
		{body()[:9], 0},
		{append(body(), 0), 0},
		{append(body(caps()), 0), 0},
		{body(caps(part(1, 0)))[:14], 0},
		{change(body(), 9, 1), 0},
		{change(body(caps()), 9, 1), 0},
		{change(body(caps()), 9, 3), 0},
		{append(body(), make([]byte, 256)...), 0}, // 256 more than the last length
		{body(part(1)), 4},
		{body(part(0, 1, 2)), 4},
		{body(part(255)), 4},
		{body(part(3), caps()), 4},
		{body(caps(part(1, 0, 1, 0, 1)), part(1)), 4},
		{body([]byte{1}), 4}, // cut off, but its type is there
		{body([]byte{1, 9, 0}), 4},
		{body([]byte{2}), 0},
		{body([]byte{2, 1}), 0},
		{body([]byte{2, 5, 1, 2, 0, 0}), 0},
		{body(caps(), []byte{2, 255}), 0},
		{body(caps([]byte{1})), 0},
		{body(caps([]byte{1, 1})), 0},
		{body(caps([]byte{1, 4, 0, 1, 0})), 0},
		{body(caps(part(1, 0), []byte{70})), 0},
		{body(caps([]byte{1, 2, 0}), caps([]byte{0})), 0}, // a capability ends within its parameter
		{body(caps(part(65))), 0},
		{body(caps(part(65, 0, 0, 1))), 0},
		{body(caps(part(65, 0, 0, 0, 0, 1))), 0},
		{body(caps(part(65, 0, 0, 0, 1, 0, 0, 0, 1))), 0},
		{body(caps(part(69, 0))), 0},
		{body(caps(part(69, 0, 1, 1))), 0},
		{body(caps(part(69, 0, 1, 1, 1, 0))), 0},
		{body(caps(part(69, 0, 1, 1, 1, 0, 1, 1))), 0},
		{body(caps(part(69, 0, 1, 1)), caps(part(69, 0, 1, 1, 1))), 0},
		{change(body(), 2, 0), 2},
		{change(body(caps(part(1, 0, 1, 0, 1))), 2, 0), 2},
		{body(caps(part(65, 0, 0, 0, 0))), 2},
		{body(caps(part(65, 0, 0, 0, 1), part(65, 0, 0, 0, 0))), 2},
		{body(caps(part(65, 0, 0, 0, 1)), caps(part(65, 0, 0, 0, 0))), 2},
		{change(body(), 4, 1), 6},
		{change(body(), 4, 2), 6},
		{change(body(), 8, 0), 3},
	} {
		if o, n := open.Get(x.b); notRefused(o, n, x.sub) {
			t.Error(i, o, n)
		}
	}
}

// P4.2: of several things that are wrong the one that is named first: each body has all faults from its own on.
func TestGetOrder(t *testing.T) {
	// all is wrong in each number, and has, ahead of a parameter of another type, a capability that is cut off.
	all := append([]byte{3, 0, 0, 0, 1, 0, 0, 0, 0, 9}, bytes.Join([][]byte{caps([]byte{65, 4}), part(1)}, nil)...)
	for i, step := range []struct {
		mend func(b []byte) []byte
		sub  int
		data []byte
	}{
		{func(b []byte) []byte { return b[:5] }, 1, []byte{0, 4}},
		{func(b []byte) []byte { return b }, 1, []byte{0, 4}},
		{func(b []byte) []byte { return change(b, 0, 4) }, 0, nil},
		{func(b []byte) []byte { return change(b, 9, byte(len(b)-10)) }, 4, nil},
		{func(b []byte) []byte { return change(b, 14, 2) }, 0, nil},
		{func(b []byte) []byte { return change(b, 13, 0) }, 0, nil}, // one of the code 65 has no data then
		{func(b []byte) []byte { return change(b, 12, 70) }, 2, nil},
		{func(b []byte) []byte { return change(b, 2, 1) }, 6, nil},
		{func(b []byte) []byte { return change(b, 4, 9) }, 3, nil},
	} {
		b := step.mend(all)
		if o, n := open.Get(b); notRefused(o, n, step.sub, step.data...) {
			t.Error(i, b, o, n)
		}
		if i > 0 {
			all = b
		}
	}
	if o, n := open.Get(change(all, 8, 1)); o != (api.Open{AS: 1, Hold: 9, ID: 1}) || n.Code != 0 {
		t.Error(o, n)
	}
}

// P4.1, P4.2 with R3: nothing that is handed in is changed or kept, nothing that was answered comes again.
func TestShares(t *testing.T) {
	o := good[len(good)-1]
	b, _ := open.Put(o)
	in := append(slices.Clone(b), 1, 2, 3)
	if p, n := open.Get(in[:len(b)]); p != o || n.Code != 0 || !bytes.Equal(in, append(slices.Clone(b), 1, 2, 3)) {
		t.Error(p, n, in)
	}
	m, _ := open.Message(o)
	m.Body[0], b[0] = 90, 91
	if again, _ := open.Put(o); again[0] != 4 {
		t.Error(again)
	}
	_, n := open.Get([]byte{9})
	n.Data[1] = 92
	if p, n := open.Get([]byte{9}); notRefused(p, n, 1, 0, 4) {
		t.Error(n)
	}
}

// P4.3: what is put is got; each part of it that is cut off is wrong.
func TestPutIsGot(t *testing.T) {
	l := slices.Clone(good)
	for _, as := range []int{1, 255, 256, 23456, 65535, 65536, 1 << 24, api.MaxAS} {
		for _, hold := range []int{0, 3, 255, 256, 65535} {
			for way := 0; way <= 3; way++ {
				o := api.Open{AS: as, Hold: hold, ID: uint32(as * 3), Four: true, Paths: way}
				l = append(l, o)
				if o.Four = false; as <= 65535 {
					l = append(l, o)
				}
			}
		}
	}
	for _, o := range l {
		b, e := open.Put(o)
		if e != api.OK {
			t.Fatal(o, e)
		}
		if p, n := open.Get(b); p != o || n.Code != 0 || n.Sub != 0 || len(n.Data) != 0 {
			t.Error(o, p, n)
		}
		for i := range b {
			if p, n := open.Get(b[:i]); notRefused(p, n, 0) {
				t.Error(o, i, p, n)
			}
		}
	}
}

// R1: any bytes at all; what is got may be said, and is got again.
func FuzzGet(f *testing.F) {
	for _, o := range good {
		b, _ := open.Put(o)
		f.Add(b)
	}
	f.Add(body(caps(part(69, 0, 1, 1, 1), part(65, 0)), part(1)))
	f.Fuzz(func(t *testing.T, b []byte) {
		o, n := open.Get(b)
		if n.Code != 0 {
			if o != (api.Open{}) || n.Code != 2 || n.Sub < 0 || n.Sub > 6 || n.Sub == 5 {
				t.Error(o, n)
			}
			return
		}
		again, e := open.Put(o)
		if p, n := open.Get(again); e != api.OK || p != o || n.Code != 0 {
			t.Error(o, e, p, n)
		}
	})
}
