package sheet_test

import (
	"slices"
	"strings"
	"testing"

	"bitepoint/api"
	"bitepoint/sheet"
)

// longest is the sheet of the code greatest whose text is as long as can be.
func longest() api.ShSheet {
	var kept []api.ShLine
	for no := range 12 {
		kept = append(kept, line(no+1, 8, 240))
	}
	return sheetOf(12, kept...)
}

// textCases are sheets and their texts.
var textCases = []struct {
	c    api.ShCode
	s    api.ShSheet
	text string
}{
	{example(), left(), "4\n1 signal 1\n3 park 3\n"},
	{example(), sheetOf(1), "1\n"},
	{example(), sheetOf(3), "3\n"},
	{example(), sheetOf(2, line(1, speed, 2), line(2, redlight, 7)), "2\n1 speed 2\n2 redlight 7\n"},
	{example(), sheetOf(1, line(1, park, 0)), "1\n1 park 0\n"},
	// No test has to fit.
	{example(), sheetOf(1, line(1, park, 240)), "1\n1 park 240\n"},
	{greatest(), longest(), "12\n1 zzzzzzzzzzzzzzzz 240\n2 zzzzzzzzzzzzzzzz 240\n3 zzzzzzzzzzzzzzzz 240\n4 zzzzzzzzzzzzzzzz 240\n5 zzzzzzzzzzzzzzzz 240\n6 zzzzzzzzzzzzzzzz 240\n" +
		"7 zzzzzzzzzzzzzzzz 240\n8 zzzzzzzzzzzzzzzz 240\n9 zzzzzzzzzzzzzzzz 240\n10 zzzzzzzzzzzzzzzz 240\n11 zzzzzzzzzzzzzzzz 240\n12 zzzzzzzzzzzzzzzz 240\n"},
	{greatest(), sheetOf(12, longest().Kept[3:]...), "12\n4 zzzzzzzzzzzzzzzz 240\n5 zzzzzzzzzzzzzzzz 240\n6 zzzzzzzzzzzzzzzz 240\n7 zzzzzzzzzzzzzzzz 240\n8 zzzzzzzzzzzzzzzz 240\n9 zzzzzzzzzzzzzzzz 240\n" +
		"10 zzzzzzzzzzzzzzzz 240\n11 zzzzzzzzzzzzzzzz 240\n12 zzzzzzzzzzzzzzzz 240\n"},
}

// TestWrite checks P10.8: the text of a sheet.
func TestWrite(t *testing.T) {
	for _, one := range textCases {
		if text, e := sheet.Write(one.c, one.s); text != one.text || e != api.OK {
			t.Errorf("Write of %v = %q, %d, not %q", one.s, text, e, one.text)
		}
	}
}

// TestRead checks P10.8: the sheet of a text.
func TestRead(t *testing.T) {
	for _, one := range textCases {
		if s, e := sheet.Read(one.c, one.text); !same(s, one.s) || e != api.OK {
			t.Errorf("Read of %q = %v, %d, not %v", one.text, s, e, one.s)
		}
	}
}

// noTexts are the texts of no sheets of the example.
var noTexts = []string{
	"", "\n", "\n\n", " \n", "x\n", "4", "signal\n", "1 signal 1\n",
	// The first line.
	"0\n", "13\n", "-1\n", "+1\n", "01\n", "1 \n", " 1\n", "1\r\n", "1\n\n", "\n1\n", "1\x00\n", "1\n\x00", "9223372036854775807\n", "9223372036854775808\n", "18446744073709551617\n", "1_0\n", "0x1\n", "1.0\n", "٣\n", "4 \n1 signal 1\n3 park 3\n",
	// The end of the last line.
	"4\n1 signal 1\n3 park 3", "4\n1 signal 1\n3 park 3\n\n", "4\n1 signal 1\n3 park 3\n ", "4\n1 signal 1\n3 park 3 \n", "4\n1 signal 1\n3 park 3\r\n", "4\n1 signal 1\n3 park 3\n4", "4\n1 signal 1\n\n3 park 3\n", "4\n\n1 signal 1\n3 park 3\n",
	// The words of a line.
	"4\n1  signal 1\n3 park 3\n", "4\n1 signal  1\n3 park 3\n", "4\n 1 signal 1\n3 park 3\n", "4\n1\tsignal 1\n3 park 3\n", "4\n1 signal\n3 park 3\n", "4\nsignal 1\n3 park 3\n", "4\n1 1\n3 park 3\n", "4\n1 signal 1 1\n3 park 3\n", "4\n1 signal 1 3 park 3\n", "4\n1signal 1\n3 park 3\n", "4\n1\nsignal 1\n3 park 3\n", "4\n1 signal 1\u00a0\n3 park 3\n",
	// Its number.
	"4\n0 signal 1\n3 park 3\n", "4\n01 signal 1\n3 park 3\n", "4\n+1 signal 1\n3 park 3\n", "4\n-1 signal 1\n3 park 3\n", "4\n1 signal 1\n5 park 3\n", "4\n1 signal 1\n1 park 3\n", "4\n3 park 3\n1 signal 1\n", "4\none signal 1\n3 park 3\n", "4\n18446744073709551617 signal 1\n3 park 3\n", "4\n- signal 1\n3 park 3\n",
	// What is written on it.
	"4\n1 Signal 1\n3 park 3\n", "4\n1 signa 1\n3 park 3\n", "4\n1 signals 1\n3 park 3\n", "4\n1 0 1\n3 park 3\n", "4\n1 - 1\n3 park 3\n", "4\n1 turn 1\n3 park 3\n",
	// Its sum.
	"4\n1 signal 241\n3 park 3\n", "4\n1 signal -1\n3 park 3\n", "4\n1 signal -0\n3 park 3\n", "4\n1 signal +1\n3 park 3\n", "4\n1 signal 01\n3 park 3\n", "4\n1 signal 00\n3 park 3\n", "4\n1 signal x\n3 park 3\n", "4\n1 signal 1\n3 park\n", "4\n1 signal 18446744073709551616\n3 park 3\n",
	// How many lines are lost.
	"4\n", "5\n1 signal 1\n", "12\n1 signal 1\n3 park 3\n", "6\n1 signal 1\n3 park 3\n", "2\n1 signal 1\n3 park 3\n",
}

// TestReadOfNoTexts checks P10.8: texts of no sheets.
func TestReadOfNoTexts(t *testing.T) {
	for _, text := range noTexts {
		if s, e := sheet.Read(example(), text); !same(s, api.ShSheet{}) || e != api.ErrForm {
			t.Errorf("Read of %q = %v, %d", text, s, e)
		}
	}
}

// TestReadOfLongTexts checks P10.8: how long a text can be.
func TestReadOfLongTexts(t *testing.T) {
	for bytes, want := range map[int]api.Errno{599: api.ErrForm, 600: api.ErrForm, 601: api.ErrLong, 602: api.ErrLong, 1000000: api.ErrLong} {
		for _, part := range []string{"x", "\n", "1", " ", "\xff"} {
			if s, e := sheet.Read(example(), strings.Repeat(part, bytes)); !same(s, api.ShSheet{}) || e != want {
				t.Errorf("Read of %d times %q = %v, %d, not %d", bytes, part, s, e, want)
			}
		}
		// The bytes count, not the letters.
		if _, e := sheet.Read(example(), strings.Repeat("ö", bytes/2)+strings.Repeat("x", bytes%2)); e != want {
			t.Errorf("Read of %d bytes = %d, not %d", bytes, e, want)
		}
	}
}

// TestReadWithAnotherCode checks P10.8: what a name is depends on the code.
func TestReadWithAnotherCode(t *testing.T) {
	text := "4\n1 signal 1\n3 park 3\n"
	c := example()
	slices.Reverse(c.Faults)
	if s, e := sheet.Read(c, text); !same(s, sheetOf(4, line(1, 2, 1), line(3, park, 3))) || e != api.OK {
		t.Errorf("Read of %q = %v, %d", text, s, e)
	}
	c = changed(func(c *api.ShCode) { c.Manoeuvres = []string{"turn", "park"} })
	if s, e := sheet.Read(c, text); !same(s, sheetOf(4, line(1, signal, 1), line(3, 4, 3))) || e != api.OK {
		t.Errorf("Read of %q = %v, %d", text, s, e)
	}
	c.Manoeuvres = nil
	if s, e := sheet.Read(c, text); !same(s, api.ShSheet{}) || e != api.ErrForm {
		t.Errorf("Read of %q = %v, %d", text, s, e)
	}
}
