package policy

import (
	"strings"

	"withy/api"
)

const (
	// leastUnit is the least number of OptMru and OptMrru; the greatest is
	// api.MaxPacket.
	leastUnit = 128
	// mostDisc is how many bytes OptDisc has at most.
	mostDisc = 20
)

// rule is what holds of the options of one kind, with what a link has of it.
type rule interface {
	// mayBe tells whether what the link has may be.
	mayBe() bool
	// asks tells whether the link asks for the kind.
	asks() bool
	// data gives what the link asks by.
	data() string
	// drop has the link not ask any more.
	drop()
	// take has the link ask by data, which fits.
	take(data string)

	// fits tells whether data has a length that is right.
	fits(data string) bool
	// good tells whether any side may ask by data, which fits.
	good(data string) bool
	// grants tells whether the link lets the other side ask for the kind.
	grants() bool
	// wish gives what the link wishes the other side to ask by instead of data,
	// which fits: data itself, if the link has nothing against it.
	wish(data string) string
}

// place is a rule in the row of all, with its kind.
type place struct {
	kind int
	rule
}

// side is a link as its rules see it, in the row in which it asks.
type side [6]place

// sideOf gives the rules of what l has; what they take and drop, l does.
func sideOf(l *api.Link) side {
	return side{
		{api.OptMru, unit{number{at: &l.Mru, size: 2}}},
		{api.OptMagic, magic{number{at: &l.Magic, size: 4}}},
		{api.OptMrru, unit{number{at: &l.Mrru, size: 2}}},
		{api.OptShort, short{at: &l.Short}},
		{api.OptDisc, disc{at: &l.Disc}},
		{api.OptLink, number{at: &l.Num, size: 2}},
	}
}

// mayBe tells whether the link may be.
func (s side) mayBe() bool {
	for _, r := range s {
		if !r.mayBe() {
			return false
		}
	}
	return true
}

// rule gives the rule of a kind; is is false if the kind has none.
func (s side) rule(kind int) (r rule, is bool) {
	for _, p := range s {
		if p.kind == kind {
			return p.rule, true
		}
	}
	return nil, false
}

// rejected gives those of os that the link rejects.
func (s side) rejected(os []api.Opt) []api.Opt {
	var out []api.Opt
	seen := map[int]int{}
	for _, o := range os {
		r, is := s.rule(o.Kind)
		if !is || !r.fits(o.Data) || !r.grants() || seen[o.Kind] > 0 {
			out = append(out, copyOf(o))
		}
		seen[o.Kind]++
	}
	return out
}

// better gives, of those of os that the link wishes otherwise, what it wishes.
func (s side) better(os []api.Opt) []api.Opt {
	var out []api.Opt
	for _, o := range os {
		r, is := s.rule(o.Kind)
		if is && r.wish(o.Data) != o.Data {
			out = append(out, api.Opt{Kind: o.Kind, Data: r.wish(o.Data)})
		}
	}
	return out
}

// easy is the part of a rule that has nothing against anything that fits.
type easy struct{}

func (easy) good(string) bool        { return true }
func (easy) grants() bool            { return true }
func (easy) wish(data string) string { return data }

// number is the rule of a kind whose data is a number of so many bytes.
type number struct {
	easy
	at   *int
	size int
}

func (n number) mayBe() bool           { return *n.at>>(8*n.size) == 0 }
func (n number) asks() bool            { return *n.at != 0 }
func (n number) data() string          { return n.text(*n.at) }
func (n number) drop()                 { *n.at = 0 }
func (n number) take(data string)      { *n.at = value(data) }
func (n number) fits(data string) bool { return len(data) == n.size }

// text gives x as it stands in data, the high byte first.
func (n number) text(x int) string {
	b := make([]byte, n.size)
	for i := range b {
		b[n.size-1-i] = byte(x >> (8 * i))
	}
	return string(b)
}

// value gives the number that stands in data.
func value(data string) int {
	x := 0
	for i := range len(data) {
		x = x<<8 | int(data[i])
	}
	return x
}

// unit is the rule of OptMru and OptMrru: how much a side takes at one time.
type unit struct{ number }

func (u unit) mayBe() bool { return *u.at == 0 || isUnit(*u.at) }

func (u unit) good(data string) bool { return isUnit(value(data)) }

func (u unit) wish(data string) string {
	if u.good(data) {
		return data
	}
	return u.text(api.MaxPacket)
}

// isUnit tells whether so many bytes at one time may be asked for.
func isUnit(n int) bool {
	return n >= leastUnit && n <= api.MaxPacket
}

// magic is the rule of OptMagic, by which a side tells itself from the other.
type magic struct{ number }

func (m magic) good(data string) bool { return value(data) != 0 }

// wish turns one's own number around: it can't be one's own again.
func (m magic) wish(data string) string {
	if m.good(data) && value(data) != *m.at {
		return data
	}
	return m.text(int(max(^uint32(*m.at), 1)))
}

// short is the rule of OptShort, which has no data.
type short struct {
	easy
	at *bool
}

func (s short) mayBe() bool           { return true }
func (s short) asks() bool            { return *s.at }
func (s short) data() string          { return "" }
func (s short) drop()                 { *s.at = false }
func (s short) take(string)           { *s.at = true }
func (s short) fits(data string) bool { return data == "" }

// grants is so, as short heads serve only if both sides ask for them.
func (s short) grants() bool { return *s.at }

// disc is the rule of OptDisc, any bytes that tell which peer a link is of.
type disc struct {
	easy
	at *string
}

func (d disc) mayBe() bool           { return len(*d.at) <= mostDisc }
func (d disc) asks() bool            { return *d.at != "" }
func (d disc) data() string          { return strings.Clone(*d.at) }
func (d disc) drop()                 { *d.at = "" }
func (d disc) take(data string)      { *d.at = strings.Clone(data) }
func (d disc) fits(data string) bool { return data != "" && len(data) <= mostDisc }
