package register_test

import (
	"slices"
	"strings"
	"testing"

	"bitepoint/api"
	"bitepoint/register"
)

// annText is the register of P of the document's examples.
const annText = "born 2000-01-01\n" +
	"pass 2016-06-05 00:00 am\n" +
	"pass 2017-10-18 00:00 b\n" +
	"pass 2018-01-26 00:00 b\n" +
	"offence 2019-03-02 5\n" +
	"ban 2019-09-18 2019-11-07\n" +
	"offence 2020-07-14 4\n" +
	"exchange 2023-04-10 dover\n" +
	"renew 2032-11-08 b\n"

// longest is the person of the rules greatest whose register is as long as can
// be.
func longest() api.RgPerson {
	p := person(40000)
	for n := range 30 {
		p.Events = append(p.Events, pass(40000, 11, 255, 1410+n))
	}
	return p
}

// longestText is the register of this person.
func longestText() string {
	var text strings.Builder
	text.WriteString("born 2109-07-08\n")
	for n := range 30 {
		text.WriteString("pass 2109-07-08 23:" + string(rune('3'+n/10)) + string(rune('0'+n%10)) + " llllllllllllllll.pppppppppppppppp.qqqqqqqqqqqqqqqq.rrrrrrrrrrrrrrrr.ssssssssssssssss.tttttttttttttttt.uuuuuuuuuuuuuuuu.vvvvvvvvvvvvvvvv.wwwwwwwwwwwwwwww\n")
	}
	return text.String()
}

// textCases are rules, persons with the events in order, and their registers.
var textCases = []struct {
	r    api.RgRules
	p    api.RgPerson
	text string
}{
	{example(), person(0), "born 2000-01-01\n"},
	{example(), person(59), "born 2000-02-29\n"},
	{example(), person(40000), "born 2109-07-08\n"},
	{example(), person(0, pass(6000, b, manual, 0)), "born 2000-01-01\npass 2016-06-05 00:00 b.manual\n"},
	{school(), person(9, pass(9, car, gears|night, 1439), pass(10, truck, night, 599)), "born 2000-01-10\npass 2000-01-10 23:59 car.gears.night\npass 2000-01-11 09:59 truck.night\n"},
	{school(), person(9, pass(9, moped, 0, 9), pass(9, moped, 0, 60), pass(9, moped, 0, 600), pass(9, bus, gears, 9)), "born 2000-01-10\npass 2000-01-10 00:09 moped\npass 2000-01-10 01:00 moped\npass 2000-01-10 10:00 moped\npass 2000-01-10 00:09 bus.gears\n"},
	{school(), person(0, exchange(0, 0), exchange(0, 1), renew(0, moped), renew(0, bus)), "born 2000-01-01\nexchange 2000-01-01 dover\nexchange 2000-01-01 calais\nrenew 2000-01-01 moped\nrenew 2000-01-01 bus\n"},
	{school(), person(0, offence(365, 1), offence(365, 10), offence(365, 20), court(366, 366), court(366, 40000)), "born 2000-01-01\noffence 2000-12-31 1\noffence 2000-12-31 10\noffence 2000-12-31 20\nban 2001-01-01 2001-01-01\nban 2001-01-01 2109-07-08\n"},
	{greatest(), longest(), longestText()},
}

// TestWrite checks P11.7: the register of a person.
func TestWrite(t *testing.T) {
	for _, one := range textCases {
		if text, e := register.Write(one.r, one.p); text != one.text || e != api.OK {
			t.Errorf("Write of %v = %q, %d, not %q", one.p, text, e, one.text)
		}
		// In any order, and twice.
		p := person(one.p.Born, append(slices.Clone(one.p.Events), one.p.Events...)...)
		slices.Reverse(p.Events)
		if text, e := register.Write(one.r, p); len(p.Events) <= 30 && (text != one.text || e != api.OK) {
			t.Errorf("Write of %v = %q, %d, not %q", p, text, e, one.text)
		}
	}
	if text, e := register.Write(example(), ann()); text != annText || e != api.OK {
		t.Errorf("Write of ann = %q, %d, not %q", text, e, annText)
	}
}

// TestRead checks P11.7: the person of a register.
func TestRead(t *testing.T) {
	for _, one := range textCases {
		if p, e := register.Read(one.r, one.text); !same(p, one.p) || e != api.OK {
			t.Errorf("Read of %q = %v, %d, not %v", one.text, p, e, one.p)
		}
	}
	want, _ := register.Sorted(example(), ann())
	if p, e := register.Read(example(), annText); !same(p, want) || e != api.OK {
		t.Errorf("Read of %q = %v, %d, not %v", annText, p, e, want)
	}
}

// noFirstLines are no first lines of registers.
var noFirstLines = []string{
	"", " ", "born", "born ", "2000-01-01", " born 2000-01-01", "born  2000-01-01", "born 2000-01-01 ", "born\t2000-01-01", "Born 2000-01-01", "borne 2000-01-01", "bor 2000-01-01", "born 2000-01-01 2000-01-01", "pass 2000-01-01", "born 2000-01-01\r", "born\u00a02000-01-01",
	// No dates, or none from the first to the last day.
	"born 0", "born 2000", "born 2000-01", "born 2000-01-", "born 2000-01-01-", "born -2000-01-01", "born 2000-01-01-01", "born 2000/01/01", "born 2000--01-01", "born 20000101", "born 2000-01-x", "born x-01-01", "born 2000-x-01",
	"born 1999-12-31", "born 2109-07-09", "born 2110-01-01", "born 0000-01-01", "born 2000-00-01", "born 2000-13-01", "born 2000-01-00", "born 2000-01-32", "born 2000-02-30", "born 2001-02-29", "born 2100-02-29", "born 2000-04-31",
	// Numbers with other digits.
	"born 2000-1-01", "born 2000-01-1", "born 2000-001-01", "born 2000-01-001", "born 02000-01-01", "born 2000-+1-01", "born 2000-01-+1", "born +2000-01-01", "born 2000- 1-01", "born 2000-1 -01", "born 2_000-01-01", "born 2000-01-0x1", "born 2000-01-1e0", "born 2000-01-٣", "born 18446744073709553616-01-01",
}

// noLines are no lines of events in registers of school of somebody who was
// born on 2000-01-10.
var noLines = []string{
	"", " ", "born 2000-01-10", "x", "pass", "pass ", "drive 2020-01-01", "5 2020-01-01 1",
	"pass 2020-01-01", "pass 2020-01-01 10:00", "pass 2020-01-01 car", "pass 2020-01-01 car 10:00", "pass 10:00 2020-01-01 car", "pass 2020-01-01 10:00 car moped", "pass 2020-01-01 10:00 car ", "pass 2020-01-01 10:00  car", "pass 2020-01-01  10:00 car", "pass  2020-01-01 10:00 car", " pass 2020-01-01 10:00 car", "Pass 2020-01-01 10:00 car", "passes 2020-01-01 10:00 car", "pas 2020-01-01 10:00 car", "pass\t2020-01-01 10:00 car", "pass 2020-01-01 10:00 car\r",
	// Days that are none, or are before the day of birth.
	"pass 2000-01-09 10:00 car", "pass 1999-12-31 10:00 car", "pass 2109-07-09 10:00 car", "pass 2019-02-29 10:00 car", "pass 2020-1-01 10:00 car", "pass 7305 10:00 car",
	"exchange 2000-01-09 dover", "renew 2000-01-09 car", "offence 2000-01-09 1", "ban 2000-01-09 2020-01-01",
	// Times.
	"pass 2020-01-01 24:00 car", "pass 2020-01-01 23:60 car", "pass 2020-01-01 10:60 car", "pass 2020-01-01 9:00 car", "pass 2020-01-01 09:0 car", "pass 2020-01-01 009:00 car", "pass 2020-01-01 09:000 car", "pass 2020-01-01 09-00 car", "pass 2020-01-01 0900 car", "pass 2020-01-01 540 car", "pass 2020-01-01 09:00:00 car", "pass 2020-01-01 09: car", "pass 2020-01-01 :09 car", "pass 2020-01-01 : car", "pass 2020-01-01 -1:00 car", "pass 2020-01-01 10:-1 car", "pass 2020-01-01 +9:00 car", "pass 2020-01-01 09:+1 car", "pass 2020-01-01 xx:yy car", "pass 2020-01-01 00:599 car", "pass 2020-01-01 307445734561825861:00 car",
	// Rights.
	"pass 2020-01-01 10:00 -", "pass 2020-01-01 10:00 Car", "pass 2020-01-01 10:00 cars", "pass 2020-01-01 10:00 tram", "pass 2020-01-01 10:00 1", "pass 2020-01-01 10:00 car.", "pass 2020-01-01 10:00 .gears", "pass 2020-01-01 10:00 gears", "pass 2020-01-01 10:00 car.night.gears", "pass 2020-01-01 10:00 car.gears.gears", "pass 2020-01-01 10:00 car.fog", "pass 2020-01-01 10:00 car.car", "pass 2020-01-01 10:00 car,moped",
	// Exchanges and renewals.
	"exchange 2020-01-01", "exchange 2020-01-01 ", "exchange 2020-01-01 Dover", "exchange 2020-01-01 dove", "exchange 2020-01-01 car", "exchange 2020-01-01 0", "exchange 2020-01-01 -", "exchange 2020-01-01 dover calais", "exchange dover 2020-01-01", "exchange 2020-01-01 dover ",
	"renew 2020-01-01", "renew 2020-01-01 ", "renew 2020-01-01 Car", "renew 2020-01-01 dover", "renew 2020-01-01 car.gears", "renew 2020-01-01 1", "renew 2020-01-01 -", "renew 2020-01-01 car moped", "renew car 2020-01-01", "renew 2020-01-01 10:00 car",
	// Offences.
	"offence 2020-01-01", "offence 2020-01-01 ", "offence 2020-01-01 0", "offence 2020-01-01 21", "offence 2020-01-01 -1", "offence 2020-01-01 +1", "offence 2020-01-01 01", "offence 2020-01-01 1.0", "offence 2020-01-01 x", "offence 2020-01-01 1 1", "offence 2020-01-01 1 ", "offence 1 2020-01-01", "offence 2020-01-01 18446744073709551617", "offense 2020-01-01 1", "offence 2020-01-01 1e1",
	// Bans.
	"ban 2020-01-01", "ban 2020-01-01 ", "ban 2020-01-01 2019-12-31", "ban 2020-01-01 2000-01-10", "ban 2020-01-01 2109-07-09", "ban 2020-01-01 1999-12-31", "ban 2020-01-01 2020-02-30", "ban 2020-01-01 2020-1-01", "ban 2020-01-01 7305", "ban 2020-01-01 - 2020-01-01", "ban 2020-01-01 2020-01-01 2020-01-01", "ban 2020-01-01 90",
}

// refused fails if Read does not refuse a text with ErrForm.
func refused(t *testing.T, r api.RgRules, text string) {
	t.Helper()
	if p, e := register.Read(r, text); !same(p, api.RgPerson{}) || e != api.ErrForm {
		t.Errorf("Read of %q = %v, %d", text, p, e)
	}
}

// TestReadOfNoRegisters checks P11.7: texts of no persons.
func TestReadOfNoRegisters(t *testing.T) {
	const good = "renew 2030-01-01 car\n"
	for _, line := range noFirstLines {
		refused(t, school(), line)
		refused(t, school(), line+"\n")
		refused(t, school(), line+"\n"+good)
	}
	const born = "born 2000-01-10\n"
	for _, line := range noLines {
		refused(t, school(), born+line+"\n")
		refused(t, school(), born+good+line+"\n")
		refused(t, school(), born+line+"\n"+good)
	}
	for _, text := range []string{
		"\n", "\n\n", "born 2000-01-10", "\n" + born, born + "\n", born + "\n" + good, born + good + "\n", born + good + " ", born + "\r\n", good, good + born, born + born, born + good + born,
		born + strings.TrimSuffix(good, "\n"), strings.ReplaceAll(born+good, "\n", "\r\n"), strings.ReplaceAll(born+good, "\n", " "), strings.ToUpper(born + good), born + "\x00", "\x00" + born, "\ufeff" + born, born + good + "\xff",
	} {
		refused(t, school(), text)
	}
}

// TestReadOfLinesInOrder checks P11.7: events are in order in a register, and
// each is there once.
func TestReadOfLinesInOrder(t *testing.T) {
	lines := strings.SplitAfter(annText, "\n")
	lines = lines[:len(lines)-1]
	for at := 1; at < len(lines); at++ {
		twice := slices.Insert(slices.Clone(lines), at, lines[at])
		refused(t, example(), strings.Join(twice, ""))
		for other := 1; other < at; other++ {
			changed := slices.Clone(lines)
			changed[at], changed[other] = changed[other], changed[at]
			refused(t, example(), strings.Join(changed, ""))
		}
		without := slices.Delete(slices.Clone(lines), at, at+1)
		if p, e := register.Read(example(), strings.Join(without, "")); len(p.Events) != 7 || e != api.OK {
			t.Errorf("Read without the line %d = %v, %d", at, p, e)
		}
	}
	const born = "born 2000-01-01\n"
	for _, text := range []string{
		"offence 2020-01-01 10\noffence 2020-01-01 9\n", "offence 2020-01-01 1\nrenew 2020-01-01 b\n", "pass 2020-01-01 10:00 b\npass 2020-01-01 11:00 am\n", "pass 2020-01-01 10:00 b\npass 2020-01-01 09:00 b\n", "ban 2020-01-01 2021-01-01\nban 2020-01-01 2020-01-01\n",
	} {
		refused(t, example(), born+text)
	}
}

// TestReadOfManyLines checks P11.7: how many events a register has.
func TestReadOfManyLines(t *testing.T) {
	var text strings.Builder
	text.WriteString("born 2000-01-01\n")
	for n := range 31 {
		text.WriteString("renew 2020-01-" + string(rune('0'+(n+1)/10)) + string(rune('0'+(n+1)%10)) + " am\n")
		p, e := register.Read(example(), text.String())
		if n < 30 && (len(p.Events) != n+1 || e != api.OK) || n == 30 && (!same(p, api.RgPerson{}) || e != api.ErrForm) {
			t.Errorf("Read of %d events = %v, %d", n+1, p, e)
		}
	}
}

// TestReadOfLongTexts checks P11.7: how long a text can be.
func TestReadOfLongTexts(t *testing.T) {
	for bytes, want := range map[int]api.Errno{5999: api.ErrForm, 6000: api.ErrForm, 6001: api.ErrLong, 6002: api.ErrLong, 1000000: api.ErrLong} {
		for _, part := range []string{"x", "\n", "1", " ", "-", "\xff"} {
			if p, e := register.Read(example(), strings.Repeat(part, bytes)); !same(p, api.RgPerson{}) || e != want {
				t.Errorf("Read of %d times %q = %v, %d, not %d", bytes, part, p, e, want)
			}
		}
		// The bytes count, not the letters.
		if _, e := register.Read(example(), strings.Repeat("ö", bytes/2)+strings.Repeat("x", bytes%2)); e != want {
			t.Errorf("Read of %d bytes = %d, not %d", bytes, e, want)
		}
	}
}

// TestReadWithOtherRules checks P11.7: what a name is depends on the rules.
func TestReadWithOtherRules(t *testing.T) {
	const text = "born 2000-01-01\npass 2020-01-01 10:00 b.manual\nexchange 2020-01-01 dover\nrenew 2020-01-01 b\n"
	want := person(0, pass(7305, b, manual, 600), exchange(7305, 0), renew(7305, b))
	if p, e := register.Read(example(), text); !same(p, want) || e != api.OK {
		t.Errorf("Read of %q = %v, %d, not %v", text, p, e, want)
	}
	other := changed(func(r *api.RgRules) {
		r.System.Classes = append([]api.ClClass{{Name: "a", Needs: -1}, {Name: "c", Needs: -1}}, r.System.Classes[1])
		r.System.Classes[2].Includes = nil
		r.System.Codes = []string{"night", "manual"}
		r.Treaties = []api.RgTreaty{treaty("b", 0, 0, 0, 0), treaty("dover", 2, 0, 0, 0)}
	})
	want = person(0, pass(7305, 2, 2, 600), exchange(7305, 1), renew(7305, 2))
	if p, e := register.Read(other, text); !same(p, want) || e != api.OK {
		t.Errorf("Read of %q = %v, %d, not %v", text, p, e, want)
	}
	for _, change := range []func(r *api.RgRules){
		func(r *api.RgRules) { r.System.Classes[1].Name = "bb" },
		func(r *api.RgRules) { r.System.Codes[0] = "auto" },
		func(r *api.RgRules) { r.System.Codes, r.Treaties[0].Right.Codes = nil, 0 },
		func(r *api.RgRules) { r.Treaties[0].Name = "b" },
		func(r *api.RgRules) { r.Treaties = nil },
	} {
		refused(t, changed(change), text)
	}
}
