package iface_test

import (
	"testing"

	"foundry/api"
	"foundry/iface"
)

// F10.2: Text

func TestText(t *testing.T) {
	for _, c := range []struct {
		f    api.Iface
		want string
	}{
		{showing("k"), "module k\n"},
		{api.Iface{Name: "k", Items: []api.Item{}}, "module k\n"},
		{showing("k", num("Y", 21)), "module k\n  const Y: int = 21\n"},
		{showing("k", fn("f", api.TNone)), "module k\n  fn f()\n"},
		{
			showing("m", constant("A", api.TBool, 1), constant("X", api.TFloat, 0x3ff8000000000000), num("Y", -1), fn("f", api.TNone, api.TInt, api.TBool), fn("g", api.TFloat)),
			"module m\n  const A: bool = true\n  const X: float = 0x1.8p+0\n  const Y: int = -1\n  fn f(int, bool)\n  fn g(): float\n",
		},
		// As they stand, right or not.
		{api.Iface{}, "module \n"},
		{showing("a b\n", num("b", 1), num("a", 2), num("a", 3)), "module a b\n\n  const b: int = 1\n  const a: int = 2\n  const a: int = 3\n"},
		{showing("m", api.Item{}, api.Item{Kind: api.DVar, Name: "v", Type: api.TInt}, num("X", 1)), "module m\n  \n  \n  const X: int = 1\n"},
		{showing("m", constant("X", 9, 1), fn("", -1, 0, 1)), "module m\n  const X:  = \n  fn (, int)\n"},
	} {
		is(t, ifaceKey(c.f), iface.Text(c.f), c.want)
	}
}

func TestTextIsTheModels(t *testing.T) {
	l := rightIfaces()
	for _, wrong := range wrongIfaces() {
		l = append(l, wrong.f)
	}
	x := mixer(1301)
	for range 3000 {
		l = append(l, x.near(x.rightIface("m")))
	}
	for _, f := range l {
		f = roomyIface(f)
		ahead := wholeKey([]api.Iface{f})
		is(t, ifaceKey(f), iface.Text(f), modelTold(f))
		is(t, "left as it was", wholeKey([]api.Iface{f}), ahead)
	}
}

// Of right interfaces unlike ones have unlike texts.
func TestTextsAreUnlike(t *testing.T) {
	seen := map[string]string{}
	for _, f := range rightIfaces() {
		text := iface.Text(f)
		if other, there := seen[text]; there {
			t.Errorf("%s and %s are told alike", other, ifaceKey(f))
		}
		seen[text] = ifaceKey(f)
	}
}
