package nlri_test

import (
	"bytes"
	"math"
	"math/rand"
	"slices"
	"testing"

	"bypath/addr"
	"bypath/api"
	"bypath/nlri"
)

// at is a prefix of an ID.
func at(id int, addr uint32, n int) api.Nlri {
	return api.Nlri{ID: id, P: api.Prefix{Addr: addr, Len: n}}
}

// plain are those that may be where several paths are not told, at the edges of each length's bytes.
func plain() []api.Nlri {
	return []api.Nlri{
		at(0, 0, 0),
		at(0, 0, 1), at(0, 1<<31, 1),
		at(0, 10<<24, 7), at(0, 10<<24, 8), at(0, 10<<24, 9), at(0, 0x0a800000, 9),
		at(0, 0x0a010000, 16), at(0, 0x0a018000, 17),
		at(0, 0x0a010200, 24), at(0, 0xc0000280, 25),
		at(0, 0x0a010203, 32), at(0, 0, 32), at(0, api.Max32, 32),
	}
}

// several are those that may be where several paths are told alone.
func several() []api.Nlri {
	return []api.Nlri{at(1, 0, 0), at(5, 10<<24, 8), at(1<<31, 0xc0000280, 25), at(api.Max32, api.Max32, 32), at(0x01020304, 0x05060708, 32)}
}

// none are those that may not be.
func none() []api.Nlri {
	return []api.Nlri{
		at(-1, 0, 0), at(math.MinInt, 0, 0), at(api.Max32+1, 0, 0), at(math.MaxInt, 10<<24, 8),
		at(0, 1, 0), at(0, 10<<24|1, 8), at(0, 3<<23, 8), at(0, 1, 31), at(5, 0x0a010203, 31),
		at(0, 0, -1), at(0, 0, 33), at(0, 10<<24, 40), at(1, 0, math.MinInt), at(1, 0, math.MaxInt),
	}
}

// P6.1: just what may be is put, up to as many as may be.
func TestCheck(t *testing.T) {
	taken := func(l []api.Nlri, paths bool) {
		if _, e := nlri.Put(l, paths); nlri.Check(l, paths) != api.OK || e != api.OK {
			t.Error(len(l), paths, e)
		}
	}
	refused := func(l []api.Nlri, paths bool) {
		if b, e := nlri.Put(l, paths); nlri.Check(l, paths) != api.ErrNlri || e != api.ErrNlri || len(b) != 0 {
			t.Error(l[:min(len(l), 20)], paths, b, e)
		}
	}
	for _, paths := range []bool{false, true} {
		taken(nil, paths)
		taken([]api.Nlri{}, paths)
		taken(plain(), paths)
		taken(slices.Concat(plain(), plain()), paths) // the same one may stand there again
		taken(slices.Repeat(plain()[:1], 1024), paths)
		refused(slices.Repeat(plain()[:1], 1025), paths)
		for _, n := range none() {
			refused([]api.Nlri{n}, paths)
			refused(append(plain(), n), paths)
			refused(append([]api.Nlri{n}, plain()...), paths)
		}
	}
	taken(several(), true)
	for _, n := range several() {
		refused([]api.Nlri{n}, false)
		refused(append(plain(), n), false)
	}
}

// P6.1: the bytes, one by one.
func TestPut(t *testing.T) {
	for i, x := range []struct {
		l     []api.Nlri
		paths bool
		b     []byte
	}{
		{nil, false, nil},
		{nil, true, nil},
		{[]api.Nlri{at(5, 10<<24, 8)}, true, []byte{0, 0, 0, 5, 8, 10}},
		{[]api.Nlri{at(0, 10<<24, 8)}, false, []byte{8, 10}},
		{[]api.Nlri{at(0, 10<<24, 8)}, true, []byte{0, 0, 0, 0, 8, 10}},
		{[]api.Nlri{at(0x01020304, 0x05060708, 32), at(api.Max32, 0, 0)}, true, []byte{1, 2, 3, 4, 32, 5, 6, 7, 8, 255, 255, 255, 255, 0}},
		{[]api.Nlri{at(0, 0xc0000280, 25), at(0, 0, 0), at(0, 0x0a010000, 16), at(0, 0, 9)}, false, []byte{25, 192, 0, 2, 128, 0, 16, 10, 1, 9, 0, 0}},
	} {
		if b, e := nlri.Put(x.l, x.paths); e != api.OK || !bytes.Equal(b, x.b) {
			t.Error(i, b, e)
		}
	}
}

// P6.1: what is read, and what is no such bytes.
func TestGet(t *testing.T) {
	for i, x := range []struct {
		b     []byte
		paths bool
		want  []api.Nlri
		e     api.Errno
	}{
		{nil, false, nil, api.OK},
		{nil, true, nil, api.OK},
		{[]byte{0}, false, []api.Nlri{at(0, 0, 0)}, api.OK},
		{[]byte{8, 10, 0, 16, 10, 1}, false, []api.Nlri{at(0, 10<<24, 8), at(0, 0, 0), at(0, 0x0a010000, 16)}, api.OK},
		{[]byte{8, 10, 8, 10}, false, []api.Nlri{at(0, 10<<24, 8), at(0, 10<<24, 8)}, api.OK},
		{[]byte{0, 0, 0, 5, 8, 10, 255, 255, 255, 255, 0}, true, []api.Nlri{at(5, 10<<24, 8), at(api.Max32, 0, 0)}, api.OK},
		{[]byte{0, 0, 0, 5, 8, 10}, false, []api.Nlri{at(0, 0, 0), at(0, 0, 0), at(0, 0, 0), at(0, 8<<24, 5)}, api.ErrNlri}, // 10 is cut off
		// Bits behind a prefix's length count for nothing.
		{[]byte{9, 10, 255}, false, []api.Nlri{at(0, 0x0a800000, 9)}, api.OK},
		{[]byte{1, 127}, false, []api.Nlri{at(0, 0, 1)}, api.OK},
		{[]byte{0, 0, 0, 7, 25, 192, 0, 2, 255}, true, []api.Nlri{at(7, 0xc0000280, 25)}, api.OK},
		{[]byte{33, 1, 2, 3, 4, 5}, false, nil, api.ErrNlri},
		{[]byte{255}, false, nil, api.ErrNlri},
		{[]byte{0, 0, 0, 5, 33, 1, 2, 3, 4, 5}, true, nil, api.ErrNlri},
		{[]byte{8}, false, nil, api.ErrNlri},
		{[]byte{9, 10}, false, nil, api.ErrNlri},
		{[]byte{32, 1, 2, 3}, false, nil, api.ErrNlri},
		{[]byte{8, 10, 9, 10}, false, nil, api.ErrNlri},
		{[]byte{0}, true, nil, api.ErrNlri},
		{[]byte{0, 0, 0}, true, nil, api.ErrNlri},
		{[]byte{0, 0, 0, 5}, true, nil, api.ErrNlri}, // an ID without a prefix
		{[]byte{0, 0, 0, 5, 8}, true, nil, api.ErrNlri},
		{[]byte{0, 0, 0, 5, 8, 10, 0}, true, nil, api.ErrNlri},
		{[]byte{0, 0, 0, 5, 8, 10, 0, 0, 0, 5}, true, nil, api.ErrNlri},
	} {
		l, e := nlri.Get(x.b, x.paths)
		if e != x.e || e == api.OK && !slices.Equal(l, x.want) || e != api.OK && len(l) != 0 {
			t.Error(i, l, e)
		}
	}
}

// P6.1: as many as may be, and one more.
func TestGetMany(t *testing.T) {
	for _, x := range []struct {
		one   []byte
		paths bool
		n     api.Nlri
	}{
		{[]byte{0}, false, at(0, 0, 0)},
		{[]byte{24, 1, 2, 3}, false, at(0, 0x01020300, 24)},
		{[]byte{0, 0, 0, 9, 32, 1, 2, 3, 4}, true, at(9, 0x01020304, 32)},
	} {
		if l, e := nlri.Get(bytes.Repeat(x.one, 1024), x.paths); e != api.OK || !slices.Equal(l, slices.Repeat([]api.Nlri{x.n}, 1024)) {
			t.Error(x, len(l), e)
		}
		for _, n := range []int{1025, 5000} {
			if l, e := nlri.Get(bytes.Repeat(x.one, n), x.paths); e != api.ErrNlri || len(l) != 0 {
				t.Error(x, len(l), e)
			}
		}
	}
}

// P6.2: how many bytes each has.
func TestSize(t *testing.T) {
	for _, n := range append(plain(), several()...) {
		b, _ := nlri.Put([]api.Nlri{n}, true)
		want := 5 + (n.P.Len+7)/8
		if s := nlri.Size(n, true); s != want || s != len(b) {
			t.Error(n, s)
		}
		if n.ID != 0 {
			want = 4 // there is none where several paths are not told
		}
		if s := nlri.Size(n, false); s != want-4 {
			t.Error(n, s)
		}
	}
	for _, n := range none() {
		if nlri.Size(n, true) != 0 || nlri.Size(n, false) != 0 {
			t.Error(n)
		}
	}
}

// ordered are some in order, those that may not be too.
func ordered() []api.Nlri {
	return []api.Nlri{
		at(0, 0, math.MinInt), at(9, 0, -1), at(math.MinInt, 0, 0), at(-1, 0, 0), at(0, 0, 0), at(1, 0, 0), at(api.Max32, 0, 0), at(math.MaxInt, 0, 0),
		at(0, 0, 1), at(0, 0, 32), at(0, 0, 33), at(7, 10<<24, 7), at(5, 10<<24, 8), at(6, 10<<24, 8), at(0, 10<<24, 16),
		at(9, 0x0a010000, 16), at(3, 0x0a010203, 32), at(2, 1<<31, 1), at(1, api.Max32, 32), at(0, api.Max32, math.MaxInt),
	}
}

// P6.2: by prefixes, then by IDs.
func TestCompare(t *testing.T) {
	l := ordered()
	for i, a := range l {
		for j, b := range l {
			want := 0
			if i < j {
				want = -1
			} else if i > j {
				want = 1
			}
			if c := nlri.Compare(a, b); c != want {
				t.Error(a, b, c)
			}
			if p := addr.Compare(a.P, b.P); p != 0 && nlri.Compare(a, b) != p {
				t.Error(a, b, p)
			}
		}
	}
}

// P6.2: in order, each once, from whatever order.
func TestSort(t *testing.T) {
	if l := nlri.Sort(nil); len(l) != 0 {
		t.Error(l)
	}
	l := slices.Concat(ordered(), ordered()[3:9], ordered()[:1])
	shuffle := rand.New(rand.NewSource(1))
	for range 50 {
		shuffle.Shuffle(len(l), func(i, j int) { l[i], l[j] = l[j], l[i] })
		in := slices.Clone(l)
		if s := nlri.Sort(in); !slices.Equal(s, ordered()) || !slices.Equal(in, l) {
			t.Fatal(s)
		}
	}
	same := slices.Repeat([]api.Nlri{at(3, 0, 0)}, 5000)
	if s := nlri.Sort(same); len(s) != 1 || s[0] != same[0] {
		t.Error(s)
	}
}

// P6.3: what is put is got, each part of it that is cut off within one is wrong.
func TestPutIsGot(t *testing.T) {
	got := func(l []api.Nlri, paths bool) {
		b, e := nlri.Put(l, paths)
		if g, f := nlri.Get(b, paths); e != api.OK || f != api.OK || !slices.Equal(g, l) {
			t.Error(l, paths, e, g, f)
		}
		whole := map[int]int{} // where one ends: how many there are then
		end := 0
		for i, n := range l {
			whole[end] = i
			end += nlri.Size(n, paths)
		}
		for i := range b {
			g, e := nlri.Get(b[:i], paths)
			if n, is := whole[i]; is != (e == api.OK) || len(g) != n {
				t.Error(l, paths, i, g, e)
			}
		}
	}
	got(plain(), false)
	got(plain(), true)
	got(append(several(), plain()...), true)
	for n := 0; n <= 32; n++ {
		for _, a := range []uint32{0, api.Max32, 0xaaaaaaaa, 0x01020304} {
			got([]api.Nlri{{P: addr.Make(a, n)}}, false)
			got([]api.Nlri{{ID: int(a), P: addr.Make(a, n)}, {ID: n, P: addr.Make(^a, n)}}, true)
		}
	}
}

// P6.1, P6.2 with R3: nothing that is handed in is changed or kept.
func TestShares(t *testing.T) {
	in := append(several(), at(77, 0, 0))[:len(several())]
	b, _ := nlri.Put(in, true)
	sorted := nlri.Sort(in)
	if !slices.Equal(in, several()) || in[:len(in)+1][len(in)] != at(77, 0, 0) {
		t.Error(in)
	}
	clear(in)
	if !slices.Equal(sorted, nlri.Sort(several())) {
		t.Error(sorted)
	}
	raw := slices.Clone(b)
	l, _ := nlri.Get(raw, true)
	if !bytes.Equal(raw, b) {
		t.Error(raw)
	}
	clear(raw)
	if !slices.Equal(l, several()) {
		t.Error(l)
	}
	b[0] = 99
	if c, _ := nlri.Put(several(), true); c[0] != 0 {
		t.Error(c)
	}
}

// R1, P6.3: any bytes at all; what is got is put, and got again.
func FuzzGet(f *testing.F) {
	for _, paths := range []bool{false, true} {
		b, _ := nlri.Put(plain(), paths)
		f.Add(b, paths)
	}
	b, _ := nlri.Put(several(), true)
	f.Add(b, true)
	f.Add([]byte{33}, false)
	f.Fuzz(func(t *testing.T, b []byte, paths bool) {
		l, e := nlri.Get(b, paths)
		if e != api.OK {
			if e != api.ErrNlri || len(l) != 0 {
				t.Error(l, e)
			}
			return
		}
		again, e := nlri.Put(l, paths)
		if g, f := nlri.Get(again, paths); e != api.OK || f != api.OK || !slices.Equal(l, g) || len(again) != len(b) {
			t.Error(l, e, g, f)
		}
	})
}
