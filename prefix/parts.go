package prefix

import "consulate/api"

// parts is what an address is parted into, the highest byte first.
type parts [4]byte

func part(ip api.IP) parts {
	return parts{byte(ip >> 24), byte(ip >> 16), byte(ip >> 8), byte(ip)}
}

func join(l parts) api.IP {
	var ip api.IP
	for _, b := range l {
		ip = ip<<8 | api.IP(b)
	}
	return ip
}
