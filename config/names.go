package config

import "alerts/api"

// IsName tells whether a text is a name.
func IsName(s string) bool {
	if len(s) == 0 || len(s) > api.MaxName || isDigit(s[0]) {
		return false
	}
	for i := 0; i < len(s); i++ {
		if !isNameByte(s[i]) {
			return false
		}
	}
	return true
}

func isNameByte(c byte) bool {
	return isLetter(c) || isDigit(c) || c == '_'
}

func isLetter(c byte) bool {
	return c >= 'a' && c <= 'z' || c >= 'A' && c <= 'Z'
}

func isDigit(c byte) bool {
	return c >= '0' && c <= '9'
}

func has(names []string, name string) bool {
	for _, n := range names {
		if n == name {
			return true
		}
	}
	return false
}

// risingOnce makes a fresh list of the names, each once and in rising order.
func risingOnce(names []string) []string {
	rising := []string{}
	for _, name := range names {
		if !has(rising, name) {
			rising = withName(rising, name)
		}
	}
	return rising
}

// withName makes a fresh list of a rising one and a name that it lacks.
func withName(rising []string, name string) []string {
	list := []string{}
	placed := false
	for _, n := range rising {
		if !placed && name < n {
			list = append(list, name)
			placed = true
		}
		list = append(list, n)
	}
	if !placed {
		list = append(list, name)
	}
	return list
}
