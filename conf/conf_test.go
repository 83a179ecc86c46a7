package conf_test

import (
	"math"
	"reflect"
	"slices"
	"strconv"
	"strings"
	"testing"

	"bypath/addr"
	"bypath/api"
	"bypath/conf"
)

// firstText is the text of First.
const firstText = "as 65000\nid 10.255.0.1\nhold 90\nretry 30\nrouters 1\ncounts 1\ncarries 0\nhigh 900\nlow 700\nmoves 16\ncycle 30\nstale 90\nwarm 2\nexpire 120\npref 1000\nlonger 2\nroutes 65536\nqueue 65536\n"

// rich are settings that have interfaces and communities; richText is their text.
func rich() api.Conf {
	return api.Conf{
		AS: 4200000000, ID: 0x01020304, Hold: 180, Retry: 5, Routers: 3, Counts: 4, Carries: 6, High: 850, Low: 650, Moves: 17,
		Cycle: 31, Stale: 91, Warm: 2, Expire: 121, Pref: 1001, Longer: 8, Routes: 1000, Queue: 5000,
		Ifaces: []api.Iface{{ID: 9, Router: 2, Net: addr.Make(0x0a000000, 8), Cap: 500}, {ID: 7, Router: 0, Net: addr.Make(0, 0), Cap: 0}, {ID: api.Max32, Router: 0, Net: addr.Make(0xc0000201, 32), Cap: api.MaxSum}},
		Deny:   []int{70, 0, api.Max32, 70},
	}
}

const richText = "as 4200000000\nid 1.2.3.4\nhold 180\nretry 5\nrouters 3\ncounts 4\ncarries 6\nhigh 850\nlow 650\nmoves 17\ncycle 31\nstale 91\nwarm 2\nexpire 121\npref 1001\nlonger 8\nroutes 1000\nqueue 5000\n" +
	"iface 9 2 10.0.0.0/8 500\niface 7 0 0.0.0.0/0 0\niface 4294967295 0 192.0.2.1/32 9007199254740991\n" +
	"deny 70\ndeny 0\ndeny 4294967295\ndeny 70\n"

// may asks all of settings that may be: they are shown, and parsed again.
func may(t *testing.T, c api.Conf) {
	t.Helper()
	s := conf.Show(c)
	d, e := conf.Parse(s)
	if f := conf.Check(c); f != api.OK || s == "" || e != api.OK || !conf.Same(c, d) || !conf.Same(d, c) || conf.Show(d) != s {
		t.Errorf("%v\n%v %q\n%v %v", c, f, s, d, e)
	}
}

// mayNot asks all of settings that may not be.
func mayNot(t *testing.T, c api.Conf) {
	t.Helper()
	if e, s := conf.Check(c), conf.Show(c); e != api.ErrConf || s != "" {
		t.Error(c, e, s)
	}
}

// noText asks for a text that is refused, and of which nothing is told.
func noText(t *testing.T, s string) {
	t.Helper()
	if c, e := conf.Parse(s); e != api.ErrConf || !reflect.DeepEqual(c, api.Conf{}) {
		t.Errorf("%q %v %v", s, c, e)
	}
}

// P19.1: what settings begin with, and their text.
func TestFirst(t *testing.T) {
	want := api.Conf{
		AS: 65000, ID: 10<<24 | 255<<16 | 1, Hold: 90, Retry: 30, Routers: 1, Counts: 1, High: 900, Low: 700, Moves: 16,
		Cycle: 30, Stale: 90, Warm: 2, Expire: 120, Pref: 1000, Longer: 2, Routes: 65536, Queue: 65536,
	}
	if c := conf.First(); !reflect.DeepEqual(c, want) || conf.Show(c) != firstText {
		t.Error(c, conf.Show(c))
	}
	may(t, conf.First())
}

// P19.1: the text's lines, their order, and that of the lists.
func TestShow(t *testing.T) {
	if s := conf.Show(rich()); s != richText {
		t.Error(s)
	}
	may(t, rich())
	c, e := conf.Parse(richText)
	if e != api.OK || !reflect.DeepEqual(c, rich()) {
		t.Error(c, e)
	}
}

// P19.1: what we say, whether it may be or not: AS numbers of 4 bytes, and paths that we take.
func TestLocal(t *testing.T) {
	for _, c := range []api.Conf{conf.First(), rich(), {}, {AS: -5, ID: 7, Hold: 1, Retry: math.MaxInt, Queue: 3}} {
		want := api.Local{Open: api.Open{AS: c.AS, Hold: c.Hold, ID: c.ID, Four: true, Paths: 1}, Retry: c.Retry}
		if l := conf.Local(c); l != want {
			t.Error(l, want)
		}
	}
}

// bound is a number of settings, and those from where to where it may be; the others may not.
type bound struct {
	name        string
	least, most int
}

// bounds are those of each number of First, while the others stay: High not below its Low, Low not above its High; Hold but for 0.
func bounds() []bound {
	return []bound{
		{"AS", 1, 1<<32 - 1}, {"Hold", 3, 65535}, {"Retry", 1, 65535}, {"Routers", 1, 16}, {"Counts", 0, 16}, {"Carries", 0, 16},
		{"High", 700, 1000}, {"Low", 0, 900}, {"Moves", 1, 1024}, {"Cycle", 1, 1 << 20}, {"Stale", 1, 1 << 20}, {"Warm", 1, 1 << 20}, {"Expire", 1, 1 << 20},
		{"Pref", 1, 1<<32 - 1}, {"Longer", 0, 255}, {"Routes", 0, 65536}, {"Queue", 4096, 65536},
	}
}

// with is First with one number changed.
func with(name string, n int) api.Conf {
	c := conf.First()
	reflect.ValueOf(&c).Elem().FieldByName(name).SetInt(int64(n))
	return c
}

// P19.1: from where to where each number may be.
func TestBounds(t *testing.T) {
	for _, b := range bounds() {
		for _, n := range []int{b.least, b.least + 1, (b.least + b.most) / 2, b.most - 1, b.most} {
			may(t, with(b.name, n))
		}
		for _, n := range []int{b.least - 1, b.most + 1, -1, math.MinInt, math.MaxInt, b.least + 1<<33} {
			mayNot(t, with(b.name, n))
		}
	}
	may(t, with("Hold", 0)) // never, and 1 and 2 may not be
	mayNot(t, with("Hold", 1))
}

// P19.1: High by itself from 1 on, Low up to High.
func TestHighLow(t *testing.T) {
	for _, x := range []struct {
		high, low int
		ok        bool
	}{
		{1, 0, true}, {1, 1, true}, {0, 0, false}, {1000, 1000, true}, {1001, 0, false}, {500, 500, true}, {500, 501, false},
		{500, -1, false}, {-1, -1, false}, {-1, -2, false}, {math.MaxInt, 5, false}, {math.MaxInt, math.MaxInt, false}, {math.MinInt, math.MinInt, false},
	} {
		c := conf.First()
		c.High, c.Low = x.high, x.low
		if x.ok {
			may(t, c)
		} else {
			mayNot(t, c)
		}
	}
}

// P19.1: an ID is any but 0.
func TestID(t *testing.T) {
	for id, ok := range map[uint32]bool{0: false, 1: true, 1 << 31: true, math.MaxUint32: true} {
		c := conf.First()
		c.ID = id
		if ok {
			may(t, c)
		} else {
			mayNot(t, c)
		}
	}
}

// many are n interfaces of as many routers.
func many(n, routers int) []api.Iface {
	var l []api.Iface
	for i := range n {
		l = append(l, api.Iface{ID: n - i, Router: i % routers, Net: addr.Make(uint32(i)<<20, 12), Cap: i})
	}
	return l
}

// P19.1: interfaces that may be, each of a router below Routers.
func TestIfaces(t *testing.T) {
	c := conf.First()
	c.Routers = 16
	for _, l := range [][]api.Iface{{}, many(1, 1), many(256, 16), {{ID: 0, Router: 15}}, {{ID: api.Max32, Cap: api.MaxSum}}} {
		c.Ifaces = l
		may(t, c)
	}
	for i, l := range [][]api.Iface{
		many(257, 16), make([]api.Iface, 100000), {{Router: 16}}, {{Router: -1}}, {{Router: math.MinInt}}, {{Router: math.MaxInt}}, {{ID: -1}}, {{ID: api.Max32 + 1}}, {{Cap: -1}}, {{Cap: api.MaxSum + 1}},
		{{Net: api.Prefix{Addr: 1}}}, {{Net: api.Prefix{Len: 33}}}, {{Net: api.Prefix{Len: -1}}}, {{ID: 5}, {ID: 5, Router: 1}}, {{ID: 5}, {ID: 6}}, append(many(5, 3), api.Iface{ID: 3, Router: 9}),
	} {
		c.Ifaces = l
		if i > 1 {
			mayNot(t, c)
		} else if conf.Check(c) != api.ErrConf || conf.Show(c) != "" {
			t.Error(i)
		}
	}
	for routers := 1; routers <= 4; routers++ {
		c.Routers, c.Ifaces = routers, []api.Iface{{ID: 1, Router: 0}, {ID: 2, Router: 2}, {ID: 3, Router: 1}}
		if routers > 2 {
			may(t, c)
		} else {
			mayNot(t, c)
		}
	}
}

// P19.1: communities from 0 on, at most 16; the same one may stand there again.
func TestDeny(t *testing.T) {
	c := conf.First()
	for _, l := range [][]int{{}, {0}, {api.Max32}, {1, 2, 3}, {5, 5}, make([]int, 16)} {
		c.Deny = l
		may(t, c)
	}
	for _, l := range [][]int{{-1}, {api.Max32 + 1}, {1, 2, -3}, {math.MinInt}, {1, math.MaxInt, 2}, make([]int, 17), make([]int, 1000)} {
		c.Deny = l
		mayNot(t, c)
	}
}

// P19.1: each number may stand in digits alone, as it is shown.
func TestDigits(t *testing.T) {
	for i, l := range strings.SplitAfter(richText, "\n") {
		words := strings.Fields(l)
		for j := 1; j < len(words); j++ {
			for _, bad := range []string{
				"", "-", "+", "-1", "-0", "00", "0" + words[j], "+" + words[j], "-" + words[j], words[j] + " ", " " + words[j], words[j] + "\t", words[j] + "\r", words[j] + "x", words[j] + " 1", words[j] + ".0",
				words[j] + "\x00", "0x1f", "1_0", "1e3", "٣", "18446744073709551616", "18446744073709551617", "9223372036854775808", "-9223372036854775808", strings.Repeat("1", 1000), "x", "?", "1.2.3.4.5", "1.2.3", "300.1.1.1", "01.2.3.4", "1.2.3.4/33", "1.2.3.4/08", "1.2.3.4/8",
			} {
				all := strings.SplitAfter(richText, "\n")
				other := slices.Clone(words)
				other[j] = bad
				all[i] = strings.Join(other, " ") + "\n"
				noText(t, strings.Join(all, ""))
			}
		}
	}
}

// P19.1: lines in their order, whole, each once.
func TestLines(t *testing.T) {
	whole := func(l []string) string { return strings.Join(l, "") }
	lines := strings.SplitAfter(richText, "\n")
	lines = lines[:len(lines)-1]
	const single = 18 // those that stand there just once
	for i := range lines {
		if i < single {
			noText(t, whole(slices.Delete(slices.Clone(lines), i, i+1)))
			noText(t, whole(slices.Insert(slices.Clone(lines), i, lines[i])))
		}
		for _, more := range []string{"\n", " \n", "x\n", "as\n", "as 1\n", "queue 5000\n", "# 1\n", "iface\n", "deny\n", "deny \n", "iface 1 0 11.0.0.0/8\n", "iface 1 0 11.0.0.0/8 1 \n", "iface 1 0 11.0.0.0/8 1 1\n", "iface  1 0 11.0.0.0/8 1\n", "iface 1 0 11.0.0.0 8 1\n", "deny 1 2\n", "deny  1\n", "denying 1\n", "ifaces 1 0 11.0.0.0/8 1\n", "IFACE 1 0 11.0.0.0/8 1\n", "deny 1\r\n"} {
			noText(t, whole(slices.Insert(slices.Clone(lines), i, more)))
			noText(t, richText+more)
		}
		for j := range i {
			l := slices.Clone(lines)
			l[i], l[j] = l[j], l[i]
			s := whole(l)
			if c, e := conf.Parse(s); e == api.OK && (conf.Show(c) != s || j < single) || e != api.OK && (j >= single && (i < 21) == (j < 21)) {
				t.Error(i, j, c, e)
			}
		}
	}
	noText(t, strings.Replace(richText, "\niface 9", "\ndeny 1\niface 9", 1))
	for _, s := range []string{"", "\n", firstText[1:], firstText + "\n", "\n" + firstText, firstText + firstText, " " + firstText, firstText + " ", firstText + "\x00", "\ufeff" + firstText, strings.ReplaceAll(firstText, "\n", "\r\n"), strings.ReplaceAll(firstText, "\n", ";"), strings.ReplaceAll(firstText, " ", "\t"), strings.ToUpper(firstText)} {
		noText(t, s)
	}
}

// P19.1: a text of settings that may not be is none.
func TestTextMayNot(t *testing.T) {
	for _, x := range []struct{ from, to string }{
		{"as 4200000000", "as 0"}, {"as 4200000000", "as 4294967296"}, {"id 1.2.3.4", "id 0.0.0.0"}, {"hold 180", "hold 2"}, {"hold 180", "hold 65536"}, {"retry 5", "retry 0"}, {"retry 5", "retry 65536"},
		{"routers 3", "routers 2"}, {"routers 3", "routers 17"}, {"counts 4", "counts 17"}, {"carries 6", "carries 17"}, {"high 850", "high 649"}, {"high 850", "high 1001"}, {"low 650", "low 851"}, {"moves 17", "moves 1025"},
		{"cycle 31", "cycle 0"}, {"stale 91", "stale 1048577"}, {"warm 2", "warm 0"}, {"expire 121", "expire 0"}, {"pref 1001", "pref 0"}, {"pref 1001", "pref 4294967296"}, {"longer 8", "longer 256"},
		{"routes 1000", "routes 65537"}, {"queue 5000", "queue 4095"}, {"queue 5000", "queue 65537"}, {"iface 9 2", "iface 9 3"}, {"iface 9 2", "iface 7 2"}, {"iface 9 2 10.0.0.0/8", "iface 9 0 0.0.0.0/0"}, {"/8 500", "/8 9007199254740992"},
		{"deny 0", "deny 4294967296"}, {"deny 0\n", strings.Repeat("deny 0\n", 14)},
	} {
		if strings.Count(richText, x.from) != 1 {
			t.Fatal(x)
		}
		noText(t, strings.Replace(richText, x.from, x.to, 1))
	}
	if _, e := conf.Parse(strings.Replace(richText, "deny 0\n", strings.Repeat("deny 0\n", 13), 1)); e != api.OK {
		t.Error(e)
	}
	noText(t, firstText+strings.Repeat("iface 1 0 10.0.0.0/8 1\n", 100000))
	noText(t, firstText+"iface"+strings.Repeat(" ", 1000000)+"\n")
}

// near are the texts that are s but for one byte: gone, twice, or another one.
func near(s string) []string {
	var l []string
	for i := range s {
		l = append(l, s[:i]+s[i+1:], s[:i+1]+s[i:], s[:i])
		for _, c := range " \n019-+./adi\x00\xff" {
			l = append(l, s[:i]+string(c)+s[i+1:], s[:i]+string(c)+s[i:])
		}
	}
	return l
}

// P19.1: a text is one just if it is that of what it is parsed as.
func TestNear(t *testing.T) {
	took := 0
	for _, s := range near(richText) {
		c, e := conf.Parse(s)
		if e != api.OK {
			noText(t, s)
		} else if took++; conf.Check(c) != api.OK || conf.Show(c) != s {
			t.Errorf("%q %v", s, c)
		}
	}
	if took < 100 {
		t.Error(took)
	}
}

// spoilt are settings that are c but for one part.
func spoilt(c api.Conf) []api.Conf {
	var l []api.Conf
	for i := range reflect.TypeOf(c).NumField() {
		for _, n := range []int{1, -1, 1 << 32, math.MinInt} {
			d := c
			switch f := reflect.ValueOf(&d).Elem().Field(i); f.Kind() {
			case reflect.Int:
				f.SetInt(f.Int() + int64(n))
			case reflect.Uint32:
				f.SetUint(uint64(uint32(f.Uint()) ^ uint32(n) | 1<<7))
			default:
				continue
			}
			l = append(l, d)
		}
	}
	for i := range c.Ifaces {
		for _, change := range []func(x *api.Iface){
			func(x *api.Iface) { x.ID++ }, func(x *api.Iface) { x.Router-- }, func(x *api.Iface) { x.Cap = -x.Cap - 1 },
			func(x *api.Iface) { x.Net.Addr++ }, func(x *api.Iface) { x.Net.Len++ }, func(x *api.Iface) { x.Net.Len = 99 },
		} {
			d := c
			d.Ifaces = slices.Clone(c.Ifaces)
			change(&d.Ifaces[i])
			l = append(l, d)
		}
	}
	for i := range c.Deny {
		d := c
		d.Deny = slices.Clone(c.Deny)
		d.Deny[i]++
		l = append(l, d)
	}
	other := []func(d *api.Conf){
		func(d *api.Conf) { d.Ifaces = d.Ifaces[1:] }, func(d *api.Conf) { d.Ifaces = d.Ifaces[:len(d.Ifaces)-1] }, func(d *api.Conf) { d.Ifaces = nil }, func(d *api.Conf) { slices.Reverse(d.Ifaces) },
		func(d *api.Conf) { d.Deny = d.Deny[1:] }, func(d *api.Conf) { d.Deny = append(d.Deny, 5) }, func(d *api.Conf) { d.Deny = nil }, func(d *api.Conf) { slices.Sort(d.Deny) },
	}
	for _, change := range other {
		d := c
		d.Ifaces, d.Deny = slices.Clone(c.Ifaces), slices.Clone(c.Deny)
		change(&d)
		l = append(l, d)
	}
	return l
}

// P19.1: all parts count, also of settings that may not be; lists nil and empty do not.
func TestSame(t *testing.T) {
	all := append(spoilt(rich()), rich(), api.Conf{}, conf.First())
	for i, c := range all {
		for j, d := range all {
			if got, want := conf.Same(c, d), i == j || reflect.DeepEqual(c, d); got != want {
				t.Error(c, d, got)
			}
		}
	}
	c, d := conf.First(), conf.First()
	d.Ifaces, d.Deny = []api.Iface{}, []int{}
	if !conf.Same(c, d) || !conf.Same(d, c) || conf.Show(c) != conf.Show(d) {
		t.Error(c, d)
	}
	odd := api.Conf{Ifaces: []api.Iface{{Net: api.Prefix{Len: 40}}}}
	other := api.Conf{Ifaces: []api.Iface{{Net: api.Prefix{Len: 41}}}}
	if conf.Same(odd, other) || !conf.Same(odd, odd) {
		t.Error("prefixes that may not be")
	}
}

// R3: nothing that is handed in is changed, nor what lies behind its end; what is answered shares nothing.
func TestShares(t *testing.T) {
	c := rich()
	c.Ifaces, c.Deny = append(c.Ifaces, api.Iface{ID: 1})[:3], append(c.Deny, 1)[:4]
	d := rich()
	conf.Check(c)
	conf.Local(c)
	conf.Same(c, d)
	s := conf.Show(c)
	if !reflect.DeepEqual(c, rich()) || c.Ifaces[:4][3] != (api.Iface{ID: 1}) || c.Deny[:5][4] != 1 {
		t.Error(c)
	}
	e, _ := conf.Parse(s)
	clear(e.Ifaces)
	clear(e.Deny)
	f, _ := conf.Parse(s)
	if !reflect.DeepEqual(f, rich()) {
		t.Error(f)
	}
}

// anyConf are settings that may be, by numbers.
func anyConf(number func(least, most int) int) api.Conf {
	high := number(1, 1000)
	c := api.Conf{
		AS: number(1, api.MaxAS), ID: uint32(number(1, api.Max32)), Hold: number(3, 65535), Retry: number(1, 65535), Routers: number(1, 16), Counts: number(0, 16), Carries: number(0, 16),
		High: high, Low: number(0, high), Moves: number(1, 1024), Cycle: number(1, 1<<20), Stale: number(1, 1<<20), Warm: number(1, 1<<20), Expire: number(1, 1<<20),
		Pref: number(1, api.Max32), Longer: number(0, 255), Routes: number(0, 65536), Queue: number(4096, 65536),
	}
	for i := range number(0, 20) {
		c.Ifaces = append(c.Ifaces, api.Iface{ID: i<<20 | number(0, 1<<20-1), Router: number(0, c.Routers-1), Net: addr.Make(uint32(i)<<27|uint32(number(0, 1<<27-1)), number(5, 32)), Cap: number(0, api.MaxSum)})
	}
	for range number(0, 16) {
		c.Deny = append(c.Deny, number(0, api.Max32))
	}
	return c
}

// text is the model of Show.
func text(c api.Conf) string {
	var b strings.Builder
	say := func(word string, n int) { b.WriteString(word + " " + strconv.Itoa(n) + "\n") }
	say("as", c.AS)
	b.WriteString("id " + addr.Dotted(c.ID) + "\n")
	for _, name := range []string{"Hold", "Retry", "Routers", "Counts", "Carries", "High", "Low", "Moves", "Cycle", "Stale", "Warm", "Expire", "Pref", "Longer", "Routes", "Queue"} {
		say(strings.ToLower(name), int(reflect.ValueOf(c).FieldByName(name).Int()))
	}
	for _, x := range c.Ifaces {
		b.WriteString("iface " + strconv.Itoa(x.ID) + " " + strconv.Itoa(x.Router) + " " + addr.Show(x.Net) + " " + strconv.Itoa(x.Cap) + "\n")
	}
	for _, n := range c.Deny {
		say("deny", n)
	}
	return b.String()
}

// P19.2: any settings that may be are shown as the words say, and parsed again.
func TestBackAgain(t *testing.T) {
	seed := uint64(19)
	number := func(least, most int) int {
		seed = seed*6364136223846793005 + 1442695040888963407
		switch seed >> 61 {
		case 0:
			return least
		case 1:
			return most
		}
		return least + int(seed>>5)%(most-least+1)
	}
	for range 2000 {
		c := anyConf(number)
		may(t, c)
		if s := conf.Show(c); s != text(c) {
			t.Fatal(s, text(c))
		}
		if d, e := conf.Parse(text(c)); e != api.OK || !reflect.DeepEqual(c, d) {
			t.Fatal(c, d, e)
		}
	}
}

// P19.2, R1: any text is refused, or that of the settings that it is parsed as.
func FuzzParse(f *testing.F) {
	for _, s := range []string{"", firstText, richText, richText[:200], strings.ReplaceAll(richText, " ", "  "), "as 1\nid 1.1.1.1\nhold 0\nretry 1\n"} {
		f.Add(s)
	}
	f.Fuzz(func(t *testing.T, s string) {
		c, e := conf.Parse(s)
		if e != api.OK {
			noText(t, s)
		} else if conf.Check(c) != api.OK || conf.Show(c) != s {
			t.Errorf("%q %v", s, c)
		}
	})
}
