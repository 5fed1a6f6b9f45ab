package attrs

import (
	"cmp"
	"slices"

	"consulate/api"
	"consulate/fuse"
	"consulate/path"
	"consulate/scroll"
)

// The classes of fates, each greater than those ahead of it.
const (
	None = iota
	Discard
	Withdraw
	Reset
)

// Fate is what comes of reading.
type Fate struct {
	Class int
	Fault api.Fault
	Data  []byte
}

// The code of all that is wrong with an UPDATE, and the subcode of an attribute
// that everybody has to know, but is not known here.
const (
	wrongUpdate  = 3
	unrecognized = 2
)

// Get answers the attributes that are read of b, and their fate (P10.2).
func Get(b []byte, four, outside bool) (Attrs, Fate) {
	var a Attrs
	var o Other
	var class, from int
	var seen [256]bool
	r, readers := scroll.New(b), a.readers(four, outside)
next:
	if r.Left() == 0 {
		goto end
	}
	from = r.At()
	o = take(r)
	if r.Err() != api.OK {
		goto broken
	}
	if seen[o.Type] {
		class = max(class, Discard)
		goto next
	}
	seen[o.Type] = true
	if !known(o.Type) {
		goto unknown
	}
	if o.Flags&both != wantedOf(o.Type) {
		goto broken
	}
	class = max(class, a.keep(o, readers))
	goto next
unknown:
	if o.Flags&optional == 0 {
		return Attrs{}, reset(b[from:r.At()])
	}
	if o.Flags&transitive != 0 {
		o.Flags = both | partial
		a.Others = append(a.Others, o)
	}
	goto next
broken:
	class = Withdraw
end:
	if class == Withdraw {
		return Attrs{}, Fate{Class: Withdraw}
	}
	slices.SortFunc(a.Others, byType)
	return a, Fate{Class: class}
}

// reset answers the fate of an attribute of that form, which everybody has to
// know.
func reset(form []byte) Fate {
	fault := api.Fault{Code: wrongUpdate, Sub: unrecognized}
	return Fate{Class: Reset, Fault: fault, Data: slices.Clone(form)}
}

// take takes an attribute's form, as far as it is there: r tells whether it is.
func take(r *scroll.Reader) Other {
	o := Other{Flags: r.Byte(), Type: r.Byte()}
	length := 0
	if o.Flags&extended != 0 {
		length = int(r.Two())
	} else {
		length = int(r.Byte())
	}
	o.Value = r.Take(length)
	return o
}

// byType puts attributes in order.
func byType(o, p Other) int { return cmp.Compare(o.Type, p.Type) }

// keep gives a what o, of a known type, says, and answers the class of what
// comes of it. Where there is no reader, no value is kept.
func (a *Attrs) keep(o Other, readers map[byte]func(r *scroll.Reader)) int {
	read, is := readers[o.Type]
	if !is {
		return Discard
	}
	r := scroll.New(o.Value)
	read(r)
	if r.Err() == api.OK && r.Left() == 0 && a.right(o.Type) {
		a.Has |= bit(o.Type)
		return None
	}
	a.drop(o.Type)
	return lost(o.Type)
}

// lost answers the class of a known type whose value is not as it must be:
// without some of them the route is what it was.
func lost(typ byte) int {
	switch typ {
	case Atomic, Aggregator, Path4, Aggregator4:
		return Discard
	}
	return Withdraw
}

// readers tells how the value of each known type is read into a. Those that
// nobody may tell in this session have none.
func (a *Attrs) readers(four, outside bool) map[byte]func(r *scroll.Reader) {
	all := map[byte]func(r *scroll.Reader){
		Origin:      func(r *scroll.Reader) { a.Origin = r.Byte() },
		Path:        func(r *scroll.Reader) { a.Path = readPath(r, four) },
		NextHop:     func(r *scroll.Reader) { a.NextHop = api.IP(r.Four()) },
		Med:         func(r *scroll.Reader) { a.Med = r.Four() },
		Pref:        func(r *scroll.Reader) { a.Pref = r.Four() },
		Atomic:      func(*scroll.Reader) {},
		Aggregator:  func(r *scroll.Reader) { a.By = readBy(r, four) },
		Communities: func(r *scroll.Reader) { a.Communities = readNumbers(r) },
		Path4:       func(r *scroll.Reader) { a.Path4 = fuse.Bare(readPath(r, true)) },
		Aggregator4: func(r *scroll.Reader) { a.By4 = readBy(r, true) },
	}
	if outside {
		delete(all, Pref)
	}
	if four {
		delete(all, Path4)
		delete(all, Aggregator4)
	}
	return all
}

// readPath reads a path of all that is left.
func readPath(r *scroll.Reader, wide bool) path.Path {
	p, e := path.Read(r.Rest(), wide)
	r.Fail(e)
	return p
}

// readBy reads who aggregated.
func readBy(r *scroll.Reader, wide bool) By {
	var n uint32
	if wide {
		n = r.Four()
	} else {
		n = uint32(r.Two())
	}
	return By{AS: api.AS(n), IP: api.IP(r.Four())}
}

// readNumbers reads numbers of four bytes, as many as are left.
func readNumbers(r *scroll.Reader) []uint32 {
	var l []uint32
	for r.Left() > 0 {
		l = append(l, r.Four())
	}
	return l
}
