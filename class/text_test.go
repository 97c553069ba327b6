package class_test

import (
	"math/rand"
	"slices"
	"strings"
	"testing"

	"bitepoint/api"
	"bitepoint/class"
)

func TestWriteAndRead(t *testing.T) {
	for _, c := range []struct {
		rights []api.ClRight
		text   string
	}{
		{exampleRights(), "b.manual be.manual.night am"}, {nil, "-"}, {[]api.ClRight{}, "-"}, {list(0, 0), "am"}, {list(3, 2), "c.night"},
		{list(1, 0, 1, 0, 0, 3), "b b am.manual.night"}, {make([]api.ClRight, 40), "am" + strings.Repeat(" am", 39)},
	} {
		text, e := class.Write(example(), c.rights)
		rights, f := class.Read(example(), c.text)
		if text != c.text || e != api.OK || !slices.Equal(rights, c.rights) || f != api.OK {
			t.Errorf("Write of %v = %q, %d; Read = %v, %d", c.rights, text, e, rights, f)
		}
	}
}

func TestReadOfNoText(t *testing.T) {
	for _, text := range []string{
		"", " ", ".", "--", " -", "- ", "- -", "- am", "am -", "-am", "am ", " am", "am  b", "am.", "am..manual", ".manual", ".", "am. b", "am .manual",
		"x", "a", "amm", "AM", "manual", "am.x", "am.am", "am.manual.x", "am.manualx", "am.night.manual", "am.manual.manual", "am.night.night",
		"am.manual.night.manual", "am.manual.", "am\n", "\nam", "am\tb", "am,b", "am\x00", "\xff", "am.\xff", "äm", "am\u00a0b", "+am", "am.0",
		"am" + strings.Repeat(" am", 40), strings.Repeat("am.manual ", 40) + "x", strings.Repeat(" ", 7000), strings.Repeat(".", 7000), strings.Repeat("a", 7000),
	} {
		if rights, e := class.Read(example(), text); rights != nil || e != api.ErrForm {
			t.Errorf("Read of %q = %v, %d", text, rights, e)
		}
	}
	for _, bytes := range []int{7001, 100000} {
		if rights, e := class.Read(example(), strings.Repeat("a", bytes)); rights != nil || e != api.ErrLong {
			t.Errorf("Read of %d bytes = %v, %d", bytes, rights, e)
		}
	}
}

func TestLongestText(t *testing.T) {
	s := flat(12, 8)
	for i := range s.Classes {
		s.Classes[i].Name = strings.Repeat("c", 15) + string(rune('a'+i))
	}
	for i := range s.Codes {
		s.Codes[i] = strings.Repeat("d", 15) + string(rune('a'+i))
	}
	rights := make([]api.ClRight, 40)
	for i := range rights {
		rights[i] = api.ClRight{Class: i % 12, Codes: 255}
	}
	text, e := class.Write(s, rights)
	if len(text) != 40*(16+8*17)+39 || e != api.OK {
		t.Errorf("Write: %d bytes, %d", len(text), e)
	}
	if back, e := class.Read(s, text); !slices.Equal(back, rights) || e != api.OK {
		t.Errorf("Read = %v, %d", back, e)
	}
}

func TestTextOfRandomRights(t *testing.T) {
	r := rand.New(rand.NewSource(11))
	for range 1000 {
		s := randomSystem(r, 12, 8)
		rights := randomRights(r, s, 40)
		text, e := class.Write(s, rights)
		if e != api.OK {
			t.Fatalf("%v: Write of %v = %d", s, rights, e)
		}
		if back, e := class.Read(s, text); !slices.Equal(back, rights) || e != api.OK {
			t.Fatalf("%v: Read of %q = %v, %d, not %v", s, text, back, e, rights)
		}
	}
}

// TestEachShortText reads all texts of some bytes up to a length. Just those
// that are written of some rights are read, and as these rights.
func TestEachShortText(t *testing.T) {
	const longest = 7
	s := api.ClSystem{Classes: []api.ClClass{newClass("a"), newClass("b"), newClass("ab")}, Codes: []string{"b", "a"}}
	written := map[string][]api.ClRight{}
	var write func(rights []api.ClRight)
	write = func(rights []api.ClRight) {
		text, e := class.Write(s, rights)
		if e != api.OK {
			t.Fatalf("Write of %v = %d", rights, e)
		}
		if len(text) > longest {
			return
		}
		if other, is := written[text]; is {
			t.Fatalf("Write of %v and %v = %q", rights, other, text)
		}
		written[text] = slices.Clone(rights)
		for c := range s.Classes {
			for codes := range 1 << len(s.Codes) {
				write(append(slices.Clone(rights), api.ClRight{Class: c, Codes: codes}))
			}
		}
	}
	write(nil)
	var read func(text string)
	read = func(text string) {
		rights, e := class.Read(s, text)
		want, is := written[text]
		if is && (!slices.Equal(rights, want) || e != api.OK) || !is && (rights != nil || e != api.ErrForm) {
			t.Fatalf("Read of %q = %v, %d", text, rights, e)
		}
		for _, next := range "ab. -" {
			if len(text) < longest {
				read(text + string(next))
			}
		}
	}
	read("")
}
