package conf

import (
	"strconv"
	"strings"

	"bypath/addr"
	"bypath/api"
)

const (
	blank   = " "
	newline = "\n"
)

// field is a place whose thing is shown, and read, as a text without blanks.
type field interface {
	show() string
	read(s string) bool
}

// number, address and prefix are places of such things.
type (
	number  struct{ at *int }
	address struct{ at *uint32 }
	prefix  struct{ at *api.Prefix }
)

func (n number) show() string { return strconv.Itoa(*n.at) }

// read takes no other text of a number than the one that is shown: no sign ahead, no 0.
func (n number) read(s string) bool {
	k, err := strconv.Atoi(s)
	*n.at = k
	return err == nil && n.show() == s
}

func (a address) show() string { return addr.Dotted(*a.at) }

func (a address) read(s string) bool {
	x, e := addr.Address(s)
	*a.at = x
	return e == api.OK
}

func (p prefix) show() string { return addr.Show(*p.at) }

func (p prefix) read(s string) bool {
	q, e := addr.Parse(s)
	*p.at = q
	return e == api.OK
}

// line is a word, and what is said behind it.
type line struct {
	word   string
	fields []field
}

func says(word string, fields ...field) line { return line{word, fields} }

func (l line) show() string {
	s := l.word
	for _, f := range l.fields {
		s += blank + f.show()
	}
	return s + newline
}

// read takes a line without its newline. Blanks too many stay in the last field, which reads none.
func (l line) read(s string) bool {
	n := 1 + len(l.fields)
	words := strings.SplitN(s, blank, n)
	if len(words) != n || words[0] != l.word {
		return false
	}
	for i, f := range l.fields {
		if !f.read(words[1+i]) {
			return false
		}
	}
	return true
}

// text is what is left of a text that is read.
type text struct{ rest string }

// take reads the next line, if it is such a one.
func (t *text) take(l line) bool {
	s, rest, ended := strings.Cut(t.rest, newline)
	if !ended || !l.read(s) {
		return false
	}
	t.rest = rest
	return true
}
