package stash_test

import (
	"slices"
	"strconv"
	"strings"
	"testing"

	"motley/api"
	"motley/stash"
)

// graphs are packages with their parents, and orders of some of them: by depth, and merged (empty: there is none).
var graphs = []struct {
	parents, pack, depth, merged string
}{
	{"", "x", "x", "x"},
	{"a", "a", "a", "a"},
	{"a b", "b", "b", "b"},
	{"a b", "c", "c", "c"},
	{"a b", "a", "a b", "a b"},
	{"a b c", "a", "a b c", "a b c"},
	{"a b,b c,c d", "a", "a b c d", "a b c d"},
	{"a b,b c,c d", "c", "c d", "c d"},
	// The diamond of the chapter, also where its top is not there, and with further ones on it.
	{"D B C,B A,C A,A", "D", "D B A C", "D B C A"},
	{"D B C,B A,C A", "D", "D B A C", "D B C A"},
	{"D B C,B A,C A,A O", "D", "D B A O C", "D B C A O"},
	{"D B C A,B A,C A,A", "D", "D B A C", "D B C A"},
	{"D A B,B A,A", "D", "D A B", ""},
	{"D B A,B A,A", "D", "D B A", "D B A"},
	{"E D,D B C,B A,C A", "E", "E D B A C", "E D B C A"},
	{"E D C,D B C,B A,C A", "E", "E D B A C", "E D B C A"},
	{"E C D,D B C,B A,C A", "E", "E C A D B", ""},
	// The order of two parents is the other way round in a descendant.
	{"X A B,Y B A,Z X Y", "Z", "Z X A B Y", ""},
	{"X A B,Y B A,Z X Y", "X", "X A B", "X A B"},
	{"X A B,Y B A,Z X Y", "Y", "Y B A", "Y B A"},
	{"X A B,Y B A,Z X Y,W Z", "W", "W Z X A B Y", ""},
	{"X A B,Y B A,Z X Y,W Q Z", "W", "W Q Z X A B Y", ""},
	{"X A B,Y A B,Z X Y", "Z", "Z X A B Y", "Z X Y A B"},
	// A name of a later list is taken when that of the first one stands behind others.
	{"a b c,b x,c y x", "a", "a b x c y", "a b c y x"},
	{"a b c d,b x,c y,d y x", "a", "a b x c y d", "a b c d y x"},
	{"a b c,b p q,c r q", "a", "a b p q c r", "a b p c r q"},
	{"Z K1 K2 K3,K1 A B C,K2 D B E,K3 D A,A O,B O,C O,D O,E O", "Z", "Z K1 A O B C K2 D E K3", "Z K1 K2 K3 D A B C E O"},
	// Packages that are among their own ancestors, or have such parents.
	{"a a", "a", "a", ""},
	{"a b a", "a", "a b", ""},
	{"a b,b a", "a", "a b", ""},
	{"a b,b a", "b", "b a", ""},
	{"a b,b c,c a", "c", "c a b", ""},
	{"a b,b c,c b", "a", "a b c", ""},
	{"a x b,b c,c b", "a", "a x b c", ""},
	{"a x b,b c,c b", "x", "x", "x"},
	{"a b c,b a,c d", "a", "a b c d", ""},
	{"a b c,b a,c d", "c", "c d", "c d"},
	{"a b c,b d,d b,c d", "c", "c d b", ""},
	{"R M N,M B C,B M,N B D", "R", "R M B C N D", ""},
	// Names of packages with several parts are names like others.
	{"a::b a,a a::c", "a::b", "a::b a a::c", "a::b a a::c"},
}

// P8.2: Depth and Merged return the orders; what is not there has that of itself alone.
func TestOrders(t *testing.T) {
	for _, x := range graphs {
		s := stash.New()
		of := map[string][]string{}
		for _, line := range strings.FieldsFunc(x.parents, func(c rune) bool { return c == ',' }) {
			inherits(t, s, line)
			l := strings.Fields(line)
			of[l[0]] = l[1:]
		}
		before := s.Copy()
		t.Log(x.parents)
		wantDepth(t, s, x.pack, x.depth)
		wantMerged(t, s, x.pack, x.merged)
		if got := stash.Depth(of, x.pack); strings.Join(got, " ") != x.depth {
			t.Errorf("the function Depth of %s: %q; want %q", x.pack, got, x.depth)
		}
		wantSame(t, s, before)
	}
}

// P8.2: IsA reports whether the other one is in the order by depth, whether there is a merged order or not.
func TestIsA(t *testing.T) {
	s := inherited(t, "D B C", "B A", "C A", "X X Y", "E")
	for _, x := range []struct {
		pack, other string
		want        bool
	}{
		{"D", "D", true}, {"D", "A", true}, {"D", "C", true}, {"B", "A", true}, {"B", "C", false}, {"A", "D", false}, {"A", "A", true},
		{"X", "X", true}, {"X", "Y", true}, {"Y", "X", false}, {"E", "E", true}, {"E", "A", false}, {"none", "none", true}, {"none", "D", false},
		{"D", "none", false}, {"D", "a", false},
	} {
		if got, e := s.IsA(x.pack, x.other); got != x.want || e != api.OK {
			t.Errorf("IsA %s %s: %v, error %d", x.pack, x.other, got, e)
		}
	}
}

// P8.2: the function Depth takes any map and any text.
func TestDepthOfMaps(t *testing.T) {
	of := map[string][]string{
		"": {"b", "", "b", "é", "1 2"}, "b": {"\xff", "b", ""}, "1 2": nil, "é": {"a::", "b", "a::"}, "unused": {"b"},
		"long": {"1", "2", "3", "4", "5", "6", "7", "8", "9", "10", "1"},
	}
	for _, x := range []struct {
		pack string
		want []string
	}{
		{"", []string{"", "b", "\xff", "é", "a::", "1 2"}},
		{"b", []string{"b", "\xff", "", "é", "a::", "1 2"}},
		{"none at all", []string{"none at all"}},
		{"1 2", []string{"1 2"}},
		{"long", []string{"long", "1", "2", "3", "4", "5", "6", "7", "8", "9", "10"}},
	} {
		if got := stash.Depth(of, x.pack); !slices.Equal(got, x.want) {
			t.Errorf("Depth of %q: %q; want %q", x.pack, got, x.want)
		}
	}
	for _, none := range []map[string][]string{nil, {}} {
		if got := stash.Depth(none, "x"); !slices.Equal(got, []string{"x"}) {
			t.Errorf("Depth without parents: %q", got)
		}
	}
	if len(of) != 6 || !slices.Equal(of[""], []string{"b", "", "b", "é", "1 2"}) {
		t.Errorf("Depth has changed its argument: %q", of)
	}
}

// P1: the function Depth ends for many packages behind each other, and for many ways through few of them.
func TestDepthOfMany(t *testing.T) {
	const many = 200_000
	of := map[string][]string{}
	for i := range many {
		of[strconv.Itoa(i)] = []string{strconv.Itoa(i + 1), "0"}
	}
	got := stash.Depth(of, "0")
	if len(got) != many+1 || got[many/2] != strconv.Itoa(many/2) {
		t.Errorf("%d packages", len(got))
	}
	clear(of)
	for i := range 60 {
		of[strconv.Itoa(i)] = []string{strconv.Itoa(i + 1), strconv.Itoa(i + 2), strconv.Itoa(i + 3)}
	}
	if got = stash.Depth(of, "0"); len(got) != 63 {
		t.Errorf("%d packages", len(got))
	}
}

// P1: the orders end for a full stash in which there are as many ways as possible.
func TestOrdersOfFull(t *testing.T) {
	s := stash.New()
	for i := range api.MaxPacks {
		line := "p" + strconv.Itoa(i)
		for k := range 8 {
			line += " p" + strconv.Itoa(i+1+k)
		}
		inherits(t, s, line)
	}
	var want []string
	for i := range api.MaxPacks + 8 {
		want = append(want, "p"+strconv.Itoa(i))
	}
	wantDepth(t, s, "p0", strings.Join(want, " "))
	wantMerged(t, s, "p0", strings.Join(want, " "))
}
