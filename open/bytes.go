package open

import (
	"consulate/api"
	"consulate/caps"
	"consulate/scroll"
)

// least is how many bytes an OPEN without parameters has.
const least = 10

// Get reads an OPEN's form (P6.1). How many bytes it has is asked on both sides
// of the version: what has another version may have another form, too.
func Get(b []byte) (Open, api.Fault, []byte) {
	r := scroll.New(b)
	if r.Left() < least {
		return refuse(malformed)
	}
	o := Open{Version: r.Byte(), AS: r.Two(), Hold: r.Two(), Id: api.IP(r.Four())}
	if o.Version != version {
		return refuse(badVersion)
	}
	if told := int(r.Byte()); r.Left() != told {
		return refuse(malformed)
	}
	l, f := caps.Read(r.Rest())
	if f != (api.Fault{}) {
		return Open{}, f, nil
	}
	o.Caps = l
	return o, api.Fault{}, nil
}

// refuse answers no OPEN, and what is wrong with it.
func refuse(sub byte) (Open, api.Fault, []byte) { return Open{}, fault(sub), data(sub) }

// Put answers o's form (P6.1).
func Put(o Open) ([]byte, api.Errno) {
	parameters, e := caps.Bytes(o.Caps)
	if e != api.OK {
		return nil, e
	}
	return scroll.Lay().
		Byte(o.Version).
		Two(o.AS, o.Hold).
		Four(uint32(o.Id)).
		Hold(1).
		Byte(parameters...).
		Fill().
		Done()
}
