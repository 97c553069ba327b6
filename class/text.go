package class

import (
	"slices"
	"strings"

	"bitepoint/api"
	"bitepoint/check"
	"bitepoint/sets"
)

// noRights is the text of a list without rights.
const noRights = "-"

// Write returns the text of rights.
func Write(s api.ClSystem, rights []api.ClRight) (string, api.Errno) {
	v, e := open(s, rights)
	if e != api.OK {
		return "", e
	}
	if len(rights) == 0 {
		return noRights, api.OK
	}
	words := make([]string, len(rights))
	for i, r := range rights {
		words[i] = v.word(r)
	}
	return strings.Join(words, " "), api.OK
}

// Read returns the rights of a text.
func Read(s api.ClSystem, text string) (rights []api.ClRight, e api.Errno) {
	v, e := open(s)
	if e != api.OK {
		return nil, e
	}
	if len(text) > api.MaxClText {
		return nil, api.ErrLong
	}
	defer func() {
		if recover() != nil {
			rights, e = nil, api.ErrForm
		}
	}()
	return v.readRights(text), api.OK
}

// word returns the word of a right.
func (v view) word(r api.ClRight) string {
	parts := []string{v.Classes[r.Class].Name}
	for code, name := range v.Codes {
		if sets.Has(r.Codes, code) {
			parts = append(parts, name)
		}
	}
	return strings.Join(parts, ".")
}

// readRights reads a text of rights. It panics if the text is none.
func (v view) readRights(text string) []api.ClRight {
	if text == noRights {
		return nil
	}
	words := strings.Split(text, " ")
	check.Demand(len(words) <= api.MaxClRights)
	rights := make([]api.ClRight, len(words))
	for i, word := range words {
		rights[i] = v.readRight(word)
	}
	return rights
}

// readRight reads the word of a right. It panics if the word is none.
func (v view) readRight(word string) api.ClRight {
	parts := strings.Split(word, ".")
	class := slices.IndexFunc(v.Classes, func(c api.ClClass) bool { return c.Name == parts[0] })
	check.Demand(class >= 0)
	codes, last := 0, -1
	for _, name := range parts[1:] {
		code := slices.Index(v.Codes, name)
		// This refuses a name that is no code, too: its index is -1.
		check.Demand(code > last)
		codes |= 1 << code
		last = code
	}
	return api.ClRight{Class: class, Codes: codes}
}
