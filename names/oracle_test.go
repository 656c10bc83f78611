package names_test

import (
	"strings"
	"testing"

	"foundry/api"
)

// A model of the chapter's words, which looks at all it is asked of one by one and has no order of Go's own.

// reserved: the chapter's list, as it stands there.
func reserved() []string {
	return strings.Fields("bool catch const else export fail false float fn if import inf input int let module nan return show true try var while")
}

const (
	letters = "ABCDEFGHIJKLMNOPQRSTUVWXYZabcdefghijklmnopqrstuvwxyz"
	digits  = "0123456789"
)

// among: is b one of those bytes?
func among(b byte, bytes string) bool {
	for i := range len(bytes) {
		if bytes[i] == b {
			return true
		}
	}
	return false
}

// count: how often s stands in l.
func count(l []string, s string) int {
	n := 0
	for _, x := range l {
		if x == s {
			n++
		}
	}
	return n
}

// right: what Right answers.
func right(s string) api.Errno {
	if len(s) == 0 || !among(s[0], letters+"_") {
		return api.ErrName
	}
	for i := range len(s) {
		if !among(s[i], letters+"_"+digits) {
			return api.ErrName
		}
	}
	if len(s) > 32 {
		return api.ErrBig
	}
	if count(reserved(), s) > 0 {
		return api.ErrName
	}
	return api.OK
}

// order: what Cmp answers, byte by byte.
func order(a, b string) int {
	for i := 0; i < len(a) && i < len(b); i++ {
		if a[i] < b[i] {
			return -1
		}
		if a[i] > b[i] {
			return 1
		}
	}
	switch {
	case len(a) < len(b):
		return -1
	case len(a) > len(b):
		return 1
	}
	return 0
}

// setWhere: the texts of l that are wanted, each put at its place if it is not there yet.
func setWhere(l []string, wanted func(s string) bool) []string {
	var set []string
	for _, s := range l {
		if !wanted(s) || count(set, s) > 0 {
			continue
		}
		at := 0
		for at < len(set) && order(set[at], s) < 0 {
			at++
		}
		set = append(set[:at:at], append([]string{s}, set[at:]...)...)
	}
	return set
}

func setOf(l []string) []string {
	return setWhere(l, func(string) bool { return true })
}

func unionOf(a, b []string) []string {
	return setOf(append(append([]string{}, a...), b...))
}

func minusOf(a, b []string) []string {
	return setWhere(a, func(s string) bool { return count(b, s) == 0 })
}

func bothOf(a, b []string) []string {
	return setWhere(a, func(s string) bool { return count(b, s) > 0 })
}

// mixer: the same numbers in each run.
type mixer uint64

func (m *mixer) next() uint64 {
	*m += 0x9e3779b97f4a7c15
	z := uint64(*m)
	z = (z ^ z>>30) * 0xbf58476d1ce4e5b9
	z = (z ^ z>>27) * 0x94d049bb133111eb
	return z ^ z>>31
}

func (m *mixer) below(n int) int {
	return int(m.next() % uint64(n))
}

// text: of fewer than long bytes, each one of those.
func (m *mixer) text(bytes string, long int) string {
	s := make([]byte, m.below(long))
	for i := range s {
		s[i] = bytes[m.below(len(bytes))]
	}
	return string(s)
}

// name: a right one, most of them short, so that like ones come.
func (m *mixer) name() string {
	for {
		if s := m.text("abXY_09", 1+m.below(40)); right(s) == api.OK {
			return s
		}
	}
}

// list: of few short texts, so that many stand twice, and many begin another; bytes above 7f and the byte 0 among them.
func (m *mixer) list(most int) []string {
	l := make([]string, m.below(most))
	for i := range l {
		l[i] = m.text("ab\x00\x7f\x80\xff", 4)
	}
	return l
}

// edgeLists: lists that are nil, empty, sets, in no order, with texts several times, with texts that begin others.
func edgeLists() [][]string {
	return [][]string{
		nil,
		{},
		{""},
		{"", ""},
		{"a"},
		{"b"},
		{"a", "b"},
		{"b", "a"},
		{"b", "a", "b"},
		{"a", "b", "a"},
		{"b", "c"},
		{"c", "d"},
		{"d", "c", "b", "a"},
		{"a", "a", "a", "a"},
		{"abc", "ab", "a", ""},
		{"a", "ab", "abc"},
		{"", "a", "", "ab", "a"},
		{"Z", "a", "_", "9", "A"},
		{"\x7f", "\x80", "\xff", "\x00"},
		{"\xff\xff", "\xff", "\xff\x00", "é", "e"},
		{"a", "a\x00", "a\x00b", "a\xff"},
		reserved(),
	}
}

// edgeTexts: each text of the edge lists, and such as begin or part from another far behind.
func edgeTexts() []string {
	long := strings.Repeat("a", 100)
	all := []string{"main", "While", "m.f", long, long + "a", long + "b", long[:99] + "b", "b" + long}
	for _, l := range edgeLists() {
		all = append(all, l...)
	}
	return setOf(all)
}

// listPairs calls f with all pairs of edge lists and with n others.
func listPairs(n int, f func(a, b []string)) {
	for _, a := range edgeLists() {
		for _, b := range edgeLists() {
			f(a, b)
		}
	}
	m := mixer(1)
	for range n {
		f(m.list(12), m.list(12))
	}
	for range 20 {
		f(m.list(300), m.list(300))
	}
}

// same: the same texts in the same order; a list without a text may be nil or empty.
func same(a, b []string) bool {
	if len(a) != len(b) {
		return false
	}
	for i := range a {
		if a[i] != b[i] {
			return false
		}
	}
	return true
}

// isList fails unless got is want.
func isList(t *testing.T, what string, got, want []string) {
	t.Helper()
	if !same(got, want) {
		t.Errorf("%s: %q, not %q", what, got, want)
	}
}
