package street_test

import (
	"fmt"
	"math/rand"
	"slices"
	"strings"
	"testing"

	"bitepoint/api"
	"bitepoint/street"
)

// wide is a town with the longest names, and two-digit numbers of streets.
func wide() api.StTown {
	t := plain(2, 0, 1, 40)
	t.Places = []string{strings.Repeat("a", 16), strings.Repeat("b", 16)}
	for i := range t.Streets {
		t.Streets[i].Both = true
	}
	return t
}

func TestWriteAndRead(t *testing.T) {
	for _, c := range []struct {
		from  int
		steps []api.StStep
		text  string
	}{
		{home, by(0, -1, 2), "home-0.hill=0.home-2.ring"},
		{home, by(0, 1, 3), "home-0.hill-1.ring-3.home"},
		{ring, by(-2, -1), "ring=1.hill=0.home"},
		{home, nil, "home"},
		{depot, nil, "depot"},
	} {
		if text, e := street.Write(example(), c.from, c.steps); text != c.text || e != api.OK {
			t.Errorf("%v: Write = %q, %d", c.steps, text, e)
		}
		if from, steps, e := street.Read(example(), c.text); from != c.from || !slices.Equal(steps, c.steps) || e != api.OK {
			t.Errorf("%q: Read = %d, %v, %d", c.text, from, steps, e)
		}
	}
}

func TestWriteOfWrongSteps(t *testing.T) {
	for i, c := range stepsErrors {
		if text, e := street.Write(example(), c.from, c.steps); e != c.e || text != "" {
			t.Errorf("%d: Write = %q, %d", i, text, e)
		}
		if text, e := street.Write(wrongTown(), c.from, c.steps); e != api.ErrTwice || text != "" {
			t.Errorf("%d: Write in a wrong town = %q, %d", i, text, e)
		}
	}
}

func TestReadOfNoTours(t *testing.T) {
	for _, text := range []string{
		"", " ", "-", "=", "home ", " home", "Home", "hom", "homehill", "school", "home\x00", "\xff", "home\xff", "0", "-0.hill", "=0.home",
		"home-", "home=", "home-0", "home-0.", "home-.hill", "home-0hill", "home0.hill", "home-hill", "home.0-hill", "home-0.hill-", "home-0.hill.", "home--0.hill", "home=-0.hill", "home-=0.hill", "home-0..hill", "home-0.hill.home",
		"home-00.hill", "home-+0.hill", "home--0.hill", "home- 0.hill", "home-0 .hill", "home-0x0.hill", "home-0_0.hill", "home-1e0.hill", "home-0a.hill", "ring-03.home", "ring-3 .home", "ring-\xd9\xa3.home",
		"home-4.hill", "home-40.hill", "home--1.hill", "home-18446744073709551616.hill", "home-99999999999999999999.hill", "home-9223372036854775807.hill", "home-4294967296.hill",
		"ring=2.home", "home=3.ring", "hill-0.home", "home=0.hill", "home-1.ring", "home-0.hill-0.hill", "home-0.hill-3.home",
		"home-0.ring", "home-0.home", "home-0.school", "home-0.Hill", "home-0.hill ", "home-0.hill=0.hill", "home-0.hill=0.home-2.hill", "home-2.hill-3.home", "home-0.hill\n", "home,0.hill", "home-0:hill",
		strings.Repeat("-", 23000), strings.Repeat("a", 23000), strings.Repeat("home-0.hill=0.", 1600),
	} {
		if from, steps, e := street.Read(example(), text); e != api.ErrForm || from != 0 || steps != nil {
			t.Errorf("%q: Read = %d, %v, %d", text, from, steps, e)
		}
		if from, steps, e := street.Read(wrongTown(), text); e != api.ErrTwice || from != 0 || steps != nil {
			t.Errorf("%q: Read in a wrong town = %d, %v, %d", text, from, steps, e)
		}
	}
}

// TestTextOfLongTours checks the most steps, the longest text, and more of both.
func TestTextOfLongTours(t *testing.T) {
	steps := make([]api.StStep, 1100)
	for i := range steps {
		steps[i] = api.StStep{Street: 10 + i%30, Back: i%2 == 1}
	}
	text, e := street.Write(wide(), 0, steps)
	if len(text) != 16+1100*20 || e != api.OK {
		t.Fatalf("Write of 1100 steps has %d bytes, %d", len(text), e)
	}
	if from, again, e := street.Read(wide(), text); from != 0 || !slices.Equal(again, steps) || e != api.OK {
		t.Errorf("Read of 1100 steps = %d, %d steps, %d", from, len(again), e)
	}
	more := text + "-0." + wide().Places[1]
	if from, again, e := street.Read(wide(), more); from != 0 || again != nil || e != api.ErrForm {
		t.Errorf("Read of 1101 steps = %d, %d steps, %d", from, len(again), e)
	}
	for _, c := range []struct {
		bytes int
		e     api.Errno
	}{{22999, api.ErrForm}, {23000, api.ErrForm}, {23001, api.ErrLong}, {100000, api.ErrLong}} {
		filled := text + strings.Repeat("a", c.bytes-len(text))
		if from, again, e := street.Read(wide(), filled); from != 0 || again != nil || e != c.e {
			t.Errorf("Read of %d bytes = %d, %d steps, %d", c.bytes, from, len(again), e)
		}
	}
	if _, _, e := street.Read(wrongTown(), strings.Repeat("a", 23001)); e != api.ErrTwice {
		t.Errorf("Read of a long text in a wrong town = %d", e)
	}
}

// TestTextOfRandomTours checks P3.12: what is written is read back.
func TestTextOfRandomTours(t *testing.T) {
	r := rand.New(rand.NewSource(12))
	for range 2000 {
		town := randomTown(r, 16, 2, 40, 9)
		from := r.Intn(len(town.Places))
		steps := randomSteps(r, town, from, 20)
		text, e := street.Write(town, from, steps)
		if e != api.OK {
			t.Fatalf("%v: Write = %d", steps, e)
		}
		at, again, e := street.Read(town, text)
		if at != from || !slices.Equal(again, steps) || e != api.OK {
			t.Fatalf("%q: Read = %d, %v, %d", text, at, again, e)
		}
		want := town.Places[from]
		for _, step := range steps {
			_, to := ends(town, step)
			sign := map[bool]string{false: "-", true: "="}[step.Back]
			want += fmt.Sprint(sign, step.Street, ".", town.Places[to])
		}
		if text != want {
			t.Fatalf("%v: Write = %q, not %q", steps, text, want)
		}
	}
}

// TestTextOfChangedTexts checks P3.12: what can be read is written back.
func TestTextOfChangedTexts(t *testing.T) {
	r := rand.New(rand.NewSource(13))
	tours := 0
	for range 20000 {
		town := randomTown(r, 4, 0, 12, 9)
		from := r.Intn(len(town.Places))
		text, _ := street.Write(town, from, randomSteps(r, town, from, 3))
		bytes := []byte(text)
		for range 1 + r.Intn(2) {
			at := r.Intn(len(bytes))
			letter := "-=.p0123456789 +"[r.Intn(16)]
			switch r.Intn(3) {
			case 0:
				bytes[at] = letter
			case 1:
				bytes = slices.Insert(bytes, at, letter)
			case 2:
				bytes = append(bytes[:at:at], text[min(len(text), at+1):]...)
			}
			if len(bytes) == 0 {
				break
			}
		}
		at, steps, e := street.Read(town, string(bytes))
		if e == api.ErrForm {
			continue
		}
		tours++
		if again, other := street.Write(town, at, steps); e != api.OK || other != api.OK || again != string(bytes) {
			t.Fatalf("%q: Read = %d, %v, %d; Write = %q, %d", bytes, at, steps, e, again, other)
		}
	}
	if tours < 200 {
		t.Errorf("only %d of the texts were tours", tours)
	}
}
