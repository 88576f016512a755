package safety

import "intaglio/api"

// Same: does a text have the digits of a number, whatever blanks, line ends or strokes stand between?
func Same(number, text string) bool { return string(plain(number)) == string(plain(text)) }

// plain is a text's bytes without those that people put between; byte by byte, as a text may be no runes at all.
func plain(text string) []byte {
	var kept []byte
	for i := range len(text) {
		if c := text[i]; c != ' ' && c != '\n' && c != '-' {
			kept = append(kept, c)
		}
	}
	return kept
}

// Parse: the groups of a text.
func Parse(s string) (Groups, api.Errno) {
	var g Groups
	if len(s) != len(g.String()) {
		return Groups{}, api.ErrShape
	}
	for i := range g {
		for j := range digits {
			g[i] = 10*g[i] + uint32(s[i*(digits+1)+j]-'0')
		}
	}
	if g.String() != s { // where s has other bytes than digits and blanks
		return Groups{}, api.ErrShape
	}
	return g, api.OK
}
