package stash

import (
	"strings"

	"motley/api"
)

// Split returns the package and the name of a whole name.
func Split(full string) (string, string, api.Errno) {
	pack, name := "main", full
	if at := strings.LastIndex(full, "::"); at >= 0 {
		pack, name = full[:at], full[at+2:]
	}
	if !isPackage(pack) || !isName(name) {
		return "", "", api.ErrArg
	}
	return pack, name, api.OK
}

// isName reports whether a text is a name.
func isName(s string) bool {
	if s == "" || len(s) > api.MaxName || isDigit(s[0]) {
		return false
	}
	for i := range len(s) {
		if !isLetter(s[i]) && !isDigit(s[i]) && s[i] != '_' {
			return false
		}
	}
	return true
}

// isPackage reports whether a text is a name of a package.
func isPackage(s string) bool {
	if len(s) > 2*api.MaxName {
		return false
	}
	for _, part := range strings.Split(s, "::") {
		if !isName(part) {
			return false
		}
	}
	return true
}

func isLetter(x byte) bool {
	return 'a' <= x && x <= 'z' || 'A' <= x && x <= 'Z'
}

func isDigit(x byte) bool {
	return '0' <= x && x <= '9'
}
