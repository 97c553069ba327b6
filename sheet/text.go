package sheet

import (
	"slices"
	"strconv"
	"strings"

	"bitepoint/api"
	"bitepoint/check"
)

// Write returns the text of a sheet.
func Write(c api.ShCode, s api.ShSheet) (string, api.Errno) {
	v, e := open(c, s)
	if e != api.OK {
		return "", e
	}
	return v.text(), api.OK
}

// Read returns the sheet of a text.
func Read(c api.ShCode, text string) (s api.ShSheet, e api.Errno) {
	k, e := openCode(c)
	if e != api.OK {
		return api.ShSheet{}, e
	}
	if len(text) > api.MaxShText {
		return api.ShSheet{}, api.ErrLong
	}
	defer func() {
		if recover() != nil {
			s, e = api.ShSheet{}, api.ErrForm
		}
	}()
	return k.read(text), api.OK
}

// text returns the text of a sheet.
func (v view) text() string {
	var text strings.Builder
	text.WriteString(strconv.Itoa(v.Lines) + "\n")
	for _, line := range v.Kept {
		text.WriteString(strconv.Itoa(line.No) + " " + v.things[line.What] + " " + strconv.Itoa(line.Sum) + "\n")
	}
	return text.String()
}

// read reads the text of a sheet. It panics if the text is that of none.
func (k code) read(text string) api.ShSheet {
	body, ends := strings.CutSuffix(text, "\n")
	check.Demand(ends)
	lines := strings.Split(body, "\n")
	s := api.ShSheet{Lines: check.Number(lines[0])}
	for _, line := range lines[1:] {
		words := strings.Split(line, " ")
		check.Demand(len(words) == 3)
		// The number of no name is -1, which cannot be written either.
		what := slices.Index(k.things, words[1])
		s.Kept = append(s.Kept, api.ShLine{No: check.Number(words[0]), What: what, Sum: check.Number(words[2])})
	}
	check.Demand(k.sheetError(s) == api.OK)
	return s
}
