// Package pair tells of a sector whether it is whole: DOC.md, chapter 1.
package pair

import (
	"strings"

	"cryostat/api"
)

// Put tells the sector of s: s, and behind it each byte's complement.
func Put(s string) (string, api.Errno) {
	if len(s) != api.Half {
		return "", api.ErrPairForm
	}
	b := make([]byte, api.Sector)
	for i := range api.Half {
		b[i] = s[i]
		b[api.Half+i] = 255 - s[i]
	}
	return string(b), api.OK
}

// Get tells what Put tells the sector s of.
func Get(s string) (string, api.Errno) {
	if len(s) != api.Sector || !whole(s) {
		return "", api.ErrPairForm
	}
	return strings.Clone(s[:api.Half]), api.OK
}

// whole asks of Sector bytes whether the second half is the first one's complement.
func whole(s string) bool {
	for i := range api.Half {
		if s[api.Half+i] != 255-s[i] {
			return false
		}
	}
	return true
}

// Torn tells the sector of which new's first at bytes were written over old.
func Torn(old string, new string, at int) (string, api.Errno) {
	if len(old) != api.Sector || len(new) != api.Sector || at < 0 || at > api.Sector {
		return "", api.ErrPairForm
	}
	// Bytes, not old and new added: of an empty text and another one Go tells that other one itself, not a copy.
	b := []byte(old)
	copy(b, new[:at])
	return string(b), api.OK
}
