package names_test

import (
	"strings"
	"testing"

	"foundry/api"
	"foundry/names"
)

// isRight fails unless Right of s is that error.
func isRight(t *testing.T, s string, e api.Errno) {
	t.Helper()
	if got := names.Right(s); got != e {
		t.Errorf("Right of %q: %d, not %d", s, got, e)
	}
}

// isSplit fails unless Split of s is that.
func isSplit(t *testing.T, s, mod, name string, e api.Errno) {
	t.Helper()
	m, n, got := names.Split(s)
	if m != mod || n != name || got != e {
		t.Errorf("Split of %q: %q, %q, %d, not %q, %q, %d", s, m, n, got, mod, name, e)
	}
}

// F4.1

func TestRightOfNames(t *testing.T) {
	for _, s := range []string{"a", "z", "A", "Z", "_", "_9", "__", "a0", "a9", "main", "Main", "x_1_Y", "z9_", "While", "NaN", "int64", "_if"} {
		isRight(t, s, api.OK)
	}
}

func TestRightOfNoNames(t *testing.T) {
	for _, s := range []string{"", "9a", "0", "9", "a-b", "-", " ", " a", "a ", "a b", "a.b", ".", ".a", "a.", "a\x00", "\x00", "a\n", "é", "aé", "a\xff", "\xff", "a$", "while"} {
		isRight(t, s, api.ErrName)
	}
}

func TestRightOfEachByteAtTheBeginning(t *testing.T) {
	for b := range 256 {
		for _, behind := range []string{"", "a", "a9_", strings.Repeat("a", 31)} {
			want := api.ErrName
			if among(byte(b), letters+"_") {
				want = api.OK
			}
			isRight(t, string([]byte{byte(b)})+behind, want)
		}
	}
}

func TestRightOfEachByteLater(t *testing.T) {
	for b := range 256 {
		want := api.ErrName
		if among(byte(b), letters+"_"+digits) {
			want = api.OK
		}
		mid := string([]byte{byte(b)})
		isRight(t, "q"+mid, want)
		isRight(t, "q"+mid+"q", want)
		isRight(t, "_9"+mid+"9", want)
		isRight(t, strings.Repeat("q", 31)+mid, want)
	}
}

func TestRightAtMaxName(t *testing.T) {
	if api.MaxName != 32 {
		t.Fatalf("MaxName: %d", api.MaxName)
	}
	for _, unit := range []string{"a", "Z", "_"} {
		for n := 1; n <= api.MaxName; n++ {
			isRight(t, strings.Repeat(unit, n), api.OK)
		}
		for _, n := range []int{api.MaxName + 1, api.MaxName + 2, 64, 255, 256, 257, 1000, 65536} {
			isRight(t, strings.Repeat(unit, n), api.ErrBig)
		}
	}
	isRight(t, "a"+strings.Repeat("9", 31), api.OK)
	isRight(t, "a"+strings.Repeat("9", 32), api.ErrBig)
}

func TestRightTellsAWrongByteAheadOfTheLength(t *testing.T) {
	as := strings.Repeat("a", 33)
	for _, wrong := range []string{" ", ".", "-", "\x00", "\x7f", "\x80", "\xff", "é"} {
		isRight(t, as+wrong, api.ErrName)
		isRight(t, wrong+as, api.ErrName)
		isRight(t, as[:16]+wrong+as[:16], api.ErrName)
		isRight(t, strings.Repeat(as, 50)+wrong, api.ErrName)
	}
	isRight(t, "9"+as, api.ErrName)
	isRight(t, as+"9", api.ErrBig)
}

func TestRightOfALongTextThatBeginsWithAReservedWord(t *testing.T) {
	for _, w := range reserved() {
		isRight(t, w+strings.Repeat("a", 32), api.ErrBig)
	}
}

// near: the texts about a word: a letter in the other case, one letter more, one less.
func near(w string) []string {
	var all []string
	for i := range len(w) {
		other := []byte(w)
		other[i] ^= 0x20
		all = append(all, string(other), w[:i]+w[i+1:])
		for _, more := range []string{"a", "x", "_", "Z"} {
			all = append(all, w[:i]+more+w[i:], w+more)
		}
	}
	return append(all, strings.ToUpper(w), w+"9", w+w)
}

func TestReservedWordsAreNoNames(t *testing.T) {
	for _, w := range reserved() {
		if !names.Reserved(w) {
			t.Errorf("Reserved of %q: false", w)
		}
		isRight(t, w, api.ErrName)
	}
}

func TestTextsNearAReservedWordAreNames(t *testing.T) {
	for _, w := range reserved() {
		for _, s := range near(w) {
			if count(reserved(), s) > 0 || s == "" {
				continue
			}
			if names.Reserved(s) {
				t.Errorf("Reserved of %q: true", s)
			}
			isRight(t, s, api.OK)
		}
	}
}

func TestReservedOfTextsThatAreNoWords(t *testing.T) {
	for _, s := range []string{"", " ", "main", "a", "_", "i", "f", "while ", " while", "while\x00", "bool catch", "break", "for", "func", "string", "\xff", "wh\xffle"} {
		if names.Reserved(s) {
			t.Errorf("Reserved of %q: true", s)
		}
	}
	for a := range 256 {
		for b := range 256 {
			s := string([]byte{byte(a), byte(b)})
			if got, want := names.Reserved(s), s == "fn" || s == "if"; got != want {
				t.Errorf("Reserved of %q: %t", s, got)
			}
		}
	}
}

func TestWordsAreTheReservedOnesInOrder(t *testing.T) {
	l := names.Words()
	isList(t, "Words", l, reserved())
	isList(t, "Set of Words", names.Set(l), l)
	for _, w := range l {
		if !names.Reserved(w) {
			t.Errorf("Reserved of %q: false", w)
		}
	}
}

func TestWordsAreNewMemory(t *testing.T) {
	l := names.Words()
	room := l[:cap(l)]
	for i := range room {
		room[i] = "other"
	}
	_ = append(l[:0], "x")
	isList(t, "Words", names.Words(), reserved())
	if names.Reserved("other") || !names.Reserved("bool") {
		t.Error("Reserved hangs on what was written into Words")
	}
}

func TestRightIsTheModels(t *testing.T) {
	m := mixer(2)
	for range 20000 {
		s := m.text("abz_AZ059", 40)
		if m.below(4) == 0 {
			s += m.text("a @[`{/:.\x00\x80\xff", 3)
		}
		isRight(t, s, right(s))
	}
}

// F4.3

func TestFarPutsAPointBetween(t *testing.T) {
	for _, x := range [][3]string{
		{"m", "f", "m.f"},
		{"main", "main", "main.main"},
		{"", "", "."},
		{"", "f", ".f"},
		{"m", "", "m."},
		{"m.f", "g", "m.f.g"},
		{"m", "f.g", "m.f.g"},
		{"9", "while", "9.while"},
		{"\xff", "\x00", "\xff.\x00"},
		{strings.Repeat("a", 100), "b", strings.Repeat("a", 100) + ".b"},
	} {
		if got := names.Far(x[0], x[1]); got != x[2] {
			t.Errorf("Far of %q, %q: %q, not %q", x[0], x[1], got, x[2])
		}
	}
}

func TestSplitOfFarNames(t *testing.T) {
	long := strings.Repeat("x", api.MaxName)
	isSplit(t, "m.f", "m", "f", api.OK)
	isSplit(t, "f.m", "f", "m", api.OK)
	isSplit(t, "_._", "_", "_", api.OK)
	isSplit(t, "m.m", "m", "m", api.OK)
	isSplit(t, "While.a9", "While", "a9", api.OK)
	isSplit(t, long+".f", long, "f", api.OK)
	isSplit(t, "m."+long, "m", long, api.OK)
	isSplit(t, long+"."+long, long, long, api.OK)
}

func TestSplitOfWrongTexts(t *testing.T) {
	for _, s := range []string{
		"", "mf", "m", "while", " ", "9", "\xff", "m f", "m,f", strings.Repeat("a", 33), strings.Repeat("a", 100),
		".", ".f", "m.", "..", "...", ".m.f", "m..f", "m.f.", "m.f.g", "m.f.g.h",
		"while.f", "m.while", "while.while", "9.f", "m.9", "m .f", "m. f", "m.f ", "\xff.f", "m.\xff", "m\x00.f", "é.f",
	} {
		isSplit(t, s, "", "", api.ErrName)
	}
	for _, w := range reserved() {
		isSplit(t, w+".f", "", "", api.ErrName)
		isSplit(t, "m."+w, "", "", api.ErrName)
	}
}

func TestSplitOfTooLongNames(t *testing.T) {
	big := strings.Repeat("a", api.MaxName+1)
	isSplit(t, big+".f", "", "", api.ErrBig)
	isSplit(t, "m."+big, "", "", api.ErrBig)
	isSplit(t, big+"."+big, "", "", api.ErrBig)
}

func TestSplitTellsTheFirstNamesErrorFirst(t *testing.T) {
	big := strings.Repeat("a", api.MaxName+1)
	for _, wrong := range []string{"", "9", "while", "a b", "f.g", big + " "} {
		isSplit(t, big+"."+wrong, "", "", api.ErrBig)
	}
	for _, wrong := range []string{"", "9", "while", "a b", big + " "} {
		isSplit(t, wrong+"."+big, "", "", api.ErrName)
	}
	isSplit(t, "m."+big+".g", "", "", api.ErrName)
	isSplit(t, big+".."+big, "", "", api.ErrBig)
	isSplit(t, big, "", "", api.ErrName)
}

func TestSplitIsTheModels(t *testing.T) {
	m := mixer(3)
	for range 20000 {
		s := m.text("ab.9_", 12)
		if m.below(8) == 0 {
			s = m.text("ab_", 40) + "." + m.text("ab_", 40)
		}
		mod, name, e := splitOf(s)
		isSplit(t, s, mod, name, e)
	}
}

// splitOf: what Split answers, by the chapter's words.
func splitOf(s string) (string, string, api.Errno) {
	at := 0
	for at < len(s) && s[at] != '.' {
		at++
	}
	if at == len(s) {
		return "", "", api.ErrName
	}
	for _, part := range []string{s[:at], s[at+1:]} {
		if e := right(part); e != api.OK {
			return "", "", e
		}
	}
	return s[:at], s[at+1:], api.OK
}

// P401

func TestSplitOfFarIsTheNames(t *testing.T) {
	m := mixer(4)
	for range 5000 {
		mod, name := m.name(), m.name()
		isSplit(t, names.Far(mod, name), mod, name, api.OK)
	}
}

func TestFarOfUnlikeNamesIsUnlike(t *testing.T) {
	type pair struct{ mod, name string }
	few := []string{"a", "b", "aa", "ab", "ba", "a_", "_a", "A", "a9", strings.Repeat("a", 32), strings.Repeat("a", 31)}
	seen := map[string]pair{}
	for _, mod := range few {
		for _, name := range few {
			far, now := names.Far(mod, name), pair{mod, name}
			if was, there := seen[far]; there {
				t.Errorf("Far of %q and of %q: both %q", was, now, far)
			}
			seen[far] = now
		}
	}
}

// The chapter's examples.

func TestExamplesOfNames(t *testing.T) {
	as := strings.Repeat("a", 33)
	isRight(t, "a", api.OK)
	isRight(t, "_9", api.OK)
	isRight(t, "9a", api.ErrName)
	isRight(t, "", api.ErrName)
	isRight(t, "a-b", api.ErrName)
	isRight(t, "while", api.ErrName)
	isRight(t, "While", api.OK)
	isRight(t, as[:32], api.OK)
	isRight(t, as, api.ErrBig)
	isRight(t, as+" ", api.ErrName)
	if got := names.Far("m", "f"); got != "m.f" {
		t.Errorf("Far: %q", got)
	}
	isSplit(t, "m.f", "m", "f", api.OK)
	isSplit(t, "mf", "", "", api.ErrName)
	isSplit(t, "m.f.g", "", "", api.ErrName)
}
