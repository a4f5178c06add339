package raws

import (
	"strings"

	"lazaret/api"
	"lazaret/refs"
)

// States of a script.
const (
	plain = iota
	escaped
	twice // escaped twice
)

// Raw is the text that stands from a place on, in a state of the tokenizer, up
// to an end tag of a name.
func Raw(s string, at, state int, name string) (text string, next int) {
	if at < 0 || at > len(s) {
		return "", at
	}
	next = len(s)
	switch state {
	case api.StRaw, api.StRCData:
		next = endOf(s, at, name)
	case api.StScript:
		next = scriptEnd(s, at, name)
	case api.StPlain:
	default:
		return "", at
	}
	text = s[at:next]
	if state == api.StRCData {
		return resolved(text), next
	}
	return clean(text), next
}

// endOf is the place of the next end of a name, or the text's end.
func endOf(s string, i int, name string) int {
	for i < len(s) && !ends(s, i, name) {
		i++
	}
	return i
}

// ends tells whether an end of a name stands at a place.
func ends(s string, i int, name string) bool {
	return strings.HasPrefix(s[i:], "</") && named(s, i+2, name)
}

// begins tells whether the start of a name's tag stands at a place.
func begins(s string, i int, name string) bool {
	return s[i] == '<' && named(s, i+1, name)
}

// named tells whether a name stands at a place, and a blank, / or > behind it.
func named(s string, i int, name string) bool {
	behind := i + len(name)
	return stands(s, i, name) && behind < len(s) && (blank(s[behind]) || s[behind] == '/' || s[behind] == '>')
}

// scriptEnd is the place at which a script is ended, or the text's end.
func scriptEnd(s string, i int, name string) int {
	const script = "script"
	state := plain
scan:
	for ; i < len(s); i++ {
		if s[i] != '<' && s[i] != '-' {
			continue
		}
		switch {
		case state == plain && strings.HasPrefix(s[i:], "<!--"):
			state = escaped
			i++ // its two - are looked at again
		case state != plain && strings.HasPrefix(s[i:], "-->"):
			state = plain
		case state != twice && ends(s, i, name):
			break scan
		case state == escaped && begins(s, i, script):
			state = twice
		case state == twice && ends(s, i, script):
			state = escaped
		}
	}
	return i
}

// resolved is a text with the characters of its references, clean.
func resolved(s string) string {
	var out strings.Builder
	for i := 0; i < len(s); {
		text, next, ok := refs.Find(s, i, false)
		if !ok {
			text, next = clean(s[i:i+1]), i+1
		}
		out.WriteString(text)
		i = next
	}
	return out.String()
}
