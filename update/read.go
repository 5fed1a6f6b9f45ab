package update

import (
	"bytes"

	"consulate/api"
	"consulate/attrs"
	"consulate/prefix"
	"consulate/scroll"
)

// The code of all that is wrong with an UPDATE, and the subcodes of lengths
// that don't fit, and of prefixes that are none.
const (
	wrongUpdate = 3
	malformed   = 1
	network     = 10
)

// parts are a body's rows of bytes.
type parts struct{ withdrawn, attrs, announced []byte }

// part parts a body into its rows; false, if it is cut short.
func part(body []byte) (parts, bool) {
	var p parts
	r := scroll.New(body)
	p.withdrawn = r.Take(int(r.Two()))
	p.attrs = r.Take(int(r.Two()))
	p.announced = r.Rest()
	return p, r.Err() == api.OK
}

// isEnd tells whether a body is the end of all routes.
func isEnd(body []byte) bool { return bytes.Equal(body, []byte{0, 0, 0, 0}) }

// reset is the fate of a body that is itself wrong.
func reset(sub byte) attrs.Fate {
	return attrs.Fate{Class: attrs.Reset, Fault: api.Fault{Code: wrongUpdate, Sub: sub}}
}

// Read answers what comes of a body (P11.4).
func Read(body []byte, s Session) Result {
	var u Update
	var fate attrs.Fate
	var e api.Errno
	p, whole := part(body)
	if !whole {
		fate = reset(malformed)
		goto end
	}
	if u.Withdrawn, e = prefix.Read(p.withdrawn); e != api.OK {
		goto refused
	}
	if u.Attrs, fate = attrs.Get(p.attrs, s.Four, s.Outside); fate.Class == attrs.Reset {
		goto end
	}
	if u.Announced, e = prefix.Read(p.announced); e != api.OK {
		goto refused
	}
	if fate.Class == attrs.Withdraw {
		goto withdraw
	}
	if len(u.Announced) == 0 {
		goto bare
	}
	if !s.Four {
		u.Attrs = Widened(u.Attrs)
	}
	if u.Attrs.Missing(s.Pref) == 0 && u.Attrs.Path.May() {
		goto tell
	}
withdraw:
	fate.Class = attrs.Withdraw
	u.Withdrawn, u.Announced = append(u.Withdrawn, u.Announced...), nil
bare:
	u.Attrs = attrs.Attrs{}
tell:
	return Result{Fate: fate, Update: u.settled(), End: isEnd(body)}
refused:
	fate = reset(network)
end:
	return Result{Fate: fate}
}
