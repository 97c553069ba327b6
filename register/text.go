package register

import (
	"slices"
	"strconv"
	"strings"

	"bitepoint/api"
	"bitepoint/check"
	"bitepoint/class"
)

// The words with which lines begin.
const (
	bornWord     = "born"
	passWord     = "pass"
	exchangeWord = "exchange"
	renewWord    = "renew"
	offenceWord  = "offence"
	banWord      = "ban"
)

// The signs between the numbers of a date, and of a time.
const (
	dateSign = "-"
	timeSign = ":"
)

// Write returns the register of a person.
func Write(r api.RgRules, p api.RgPerson) (string, api.Errno) {
	k, e := open(r, p)
	if e != api.OK {
		return "", e
	}
	return k.text(), api.OK
}

// Read returns the person of a register.
func Read(r api.RgRules, text string) (p api.RgPerson, e api.Errno) {
	if _, _, e := Check(r); e != api.OK {
		return api.RgPerson{}, e
	}
	if len(text) > api.MaxRgText {
		return api.RgPerson{}, api.ErrLong
	}
	defer func() {
		if recover() != nil {
			p, e = api.RgPerson{}, api.ErrForm
		}
	}()
	return view{r}.read(text), api.OK
}

// text returns the register of the person.
func (k *record) text() string {
	var text strings.Builder
	text.WriteString(lineOf(bornWord, date(k.Born)))
	for _, event := range k.Events {
		text.WriteString(k.line(event))
	}
	return text.String()
}

// line returns the line of an event.
func (v view) line(event api.RgEvent) string {
	day := date(event.Day)
	switch event.Kind {
	case api.RgPass:
		right, _ := class.Write(v.System, []api.ClRight{event.Right})
		return lineOf(passWord, day, time(event.Minute), right)
	case api.RgExchange:
		return lineOf(exchangeWord, day, v.Treaties[event.Treaty].Name)
	case api.RgRenew:
		return lineOf(renewWord, day, v.System.Classes[event.Class].Name)
	case api.RgOffence:
		return lineOf(offenceWord, day, strconv.Itoa(event.Points))
	default:
		return lineOf(banWord, day, date(event.Until))
	}
}

// lineOf returns a line with some words.
func lineOf(words ...string) string { return strings.Join(words, " ") + "\n" }

// date returns the text of the date of a day.
func date(day int) string {
	d, _ := class.Date(day)
	return padded(d.Year, 4) + dateSign + padded(d.Month, 2) + dateSign + padded(d.Day, 2)
}

// time returns the text of a time of the day.
func time(minute int) string {
	return padded(minute/hourMinutes, 2) + timeSign + padded(minute%hourMinutes, 2)
}

// padded returns the text of a number, with zeros ahead of it if it has fewer
// digits than these.
func padded(number, digits int) string {
	text := strconv.Itoa(number)
	return strings.Repeat("0", digits-len(text)) + text
}

// reader reads the lines of a kind of events: they begin with a word, and have
// so many words behind the date.
type reader struct {
	word   string
	behind int
	read   func(event *api.RgEvent, behind []string)
}

// readers returns the readers of all kinds of events. For a name that there is
// not they read an index that no event has.
func (v view) readers() []reader {
	return []reader{
		api.RgPass: {passWord, 2, func(event *api.RgEvent, behind []string) {
			event.Minute = readTime(behind[0])
			event.Right = v.readRight(behind[1])
		}},
		api.RgExchange: {exchangeWord, 1, func(event *api.RgEvent, behind []string) {
			event.Treaty = slices.IndexFunc(v.Treaties, func(t api.RgTreaty) bool { return t.Name == behind[0] })
		}},
		api.RgRenew: {renewWord, 1, func(event *api.RgEvent, behind []string) {
			event.Class = slices.IndexFunc(v.System.Classes, func(c api.ClClass) bool { return c.Name == behind[0] })
		}},
		api.RgOffence: {offenceWord, 1, func(event *api.RgEvent, behind []string) {
			event.Points = check.Number(behind[0])
		}},
		api.RgBan: {banWord, 1, func(event *api.RgEvent, behind []string) {
			event.Until = readDate(behind[0])
		}},
	}
}

// read reads a register. It panics if the text is that of no person.
func (v view) read(text string) api.RgPerson {
	body, ends := strings.CutSuffix(text, "\n")
	check.Demand(ends)
	lines := strings.Split(body, "\n")
	p := api.RgPerson{Born: readBorn(lines[0])}
	for _, line := range lines[1:] {
		p.Events = append(p.Events, v.readEvent(line))
	}
	check.Demand(v.personError(p) == api.OK)
	// What would be written of this person is compared as a whole: so neither
	// the order of the lines nor the digits of their numbers need a look.
	k := v.record(p)
	check.Demand(k.text() == text)
	return k.RgPerson
}

// readBorn reads the first line.
func readBorn(line string) int {
	words := strings.Split(line, " ")
	check.Demand(len(words) == 2 && words[0] == bornWord)
	return readDate(words[1])
}

// readEvent reads the line of an event.
func (v view) readEvent(line string) api.RgEvent {
	words := strings.Split(line, " ")
	readers := v.readers()
	kind := slices.IndexFunc(readers, func(r reader) bool { return r.word == words[0] })
	check.Demand(kind >= 0 && len(words) == 2+readers[kind].behind)
	event := api.RgEvent{Kind: kind, Day: readDate(words[1])}
	readers[kind].read(&event, words[2:])
	return event
}

// readRight reads the text of a single right.
func (v view) readRight(text string) api.ClRight {
	rights, e := class.Read(v.System, text)
	check.Demand(e == api.OK && len(rights) == 1)
	return rights[0]
}

// readDate reads the text of a date.
func readDate(text string) int {
	d := numbers(text, dateSign, 3)
	day, e := class.Day(api.ClDate{Year: d[0], Month: d[1], Day: d[2]})
	check.Demand(e == api.OK)
	return day
}

// readTime reads the text of a time of the day.
func readTime(text string) int {
	parts := numbers(text, timeSign, 2)
	return parts[0]*hourMinutes + parts[1]
}

// numbers reads so many numbers, with a sign between them, however many digits
// they have.
func numbers(text, sign string, many int) []int {
	parts := strings.Split(text, sign)
	check.Demand(len(parts) == many)
	all := make([]int, many)
	for at, part := range parts {
		n, e := strconv.Atoi(part)
		check.Demand(e == nil)
		all[at] = n
	}
	return all
}
