package num

import (
	"math/big"
	"regexp"
	"strings"
	"testing"

	"motley/api"
)

// P1.4: the numbers of whole texts.
func TestRadix(t *testing.T) {
	cases := map[string]int{
		"0": 0, "7": 7, "1000": 1000, "1_000": 1000, "1_0_0": 100, "9": 9,
		"0x1f": 31, "0x1F": 31, "0xAb_Cd": 0xabcd, "0x0": 0, "0x00_1": 1,
		"0b101": 5, "0b0": 0, "0b1_0": 2,
		"017": 15, "00": 0, "0_17": 15, "01_7": 15,
		"9007199254740992": api.MaxNum, "9_007_199_254_740_992": api.MaxNum, "0x20000000000000": api.MaxNum, "0400000000000000000": api.MaxNum,
		"0b1" + strings.Repeat("0", 53):               api.MaxNum,
		"0x" + strings.Repeat("0", api.MaxText) + "1": 1,
	}
	for s, want := range cases {
		if n, ok := Radix(s); n != want || !ok {
			t.Errorf("Radix of %.30q is %d, %v, not %d", s, n, ok, want)
		}
	}
	wrong := []string{
		"", "_", "_1", "1_", "1__0", "-1", "+1", " 1", "1 ", "1a", "a", "f", "1.0",
		"08", "0_8", "0_", "0__1", "00_", "0o17",
		"0x", "0x_", "0x_1", "0x1_", "0x1__1", "0_x1", "0X1", "0xg", "0x1G", "x1",
		"0b", "0b2", "0b_1", "0b1_", "0B1", "0_b1",
		"9007199254740993", "0x20000000000001", "0400000000000000001", "0b1" + strings.Repeat("0", 52) + "1",
		"18446744073709551616", "0x10000000000000000", strings.Repeat("9", api.MaxText), "0x" + strings.Repeat("f", api.MaxText),
	}
	for _, s := range wrong {
		if n, ok := Radix(s); n != 0 || ok {
			t.Errorf("Radix of %.30q is %d, %v", s, n, ok)
		}
	}
}

// P1.4: Radix of all short texts, against an expression that says the same.
func TestRadixShort(t *testing.T) {
	form := regexp.MustCompile(`\A(0x[0-9a-fA-F](_?[0-9a-fA-F])*|0b[01](_?[01])*|0(_?[0-7])*|[1-9](_?[0-9])*)\z`)
	for _, s := range words("0178_xbaF", 5) {
		want, is := 0, form.MatchString(s)
		if is {
			n, ok := new(big.Int).SetString(s, 0)
			if !ok {
				t.Fatalf("no number: %q", s)
			}
			want = int(n.Int64())
		}
		if n, ok := Radix(s); n != want || ok != is {
			t.Fatalf("Radix of %q is %d, %v, not %d, %v", s, n, ok, want, is)
		}
	}
}

// P1.4: numbers in the four bases, and what is none.
func TestSpell(t *testing.T) {
	cases := []struct {
		n, base int
		want    string
	}{
		{0, 2, "0b0"}, {0, 8, "0"}, {0, 10, "0"}, {0, 16, "0x0"},
		{5, 2, "0b101"}, {8, 8, "010"}, {10, 10, "10"}, {171, 16, "0xab"},
		{-5, 2, "-0b101"}, {-8, 8, "-010"}, {-10, 10, "-10"}, {-31, 16, "-0x1f"},
		{api.MaxNum, 16, "0x20000000000000"}, {-api.MaxNum, 10, "-9007199254740992"},
	}
	for _, c := range cases {
		if s, e := Spell(c.n, c.base); s != c.want || e != api.OK {
			t.Errorf("Spell of %d in %d is %q (%d)", c.n, c.base, s, e)
		}
	}
	for _, c := range [][2]int{{1, 0}, {1, 1}, {1, 3}, {1, 36}, {1, -2}, {1, 1 << 62}, {api.MaxNum + 1, 10}, {-api.MaxNum - 1, 2}, {-1 << 63, 16}, {-1 << 63, 3}} {
		if s, e := Spell(c[0], c[1]); s != "" || e != api.ErrArg {
			t.Errorf("Spell of %d in %d is %q (%d)", c[0], c[1], s, e)
		}
	}
}

// P1.4: what is spelt is read as the number it was.
func TestRadixOfSpell(t *testing.T) {
	numbers := []int{api.MaxNum, api.MaxNum - 1, 1 << 52, 123456789012345}
	for n := range 2000 {
		numbers = append(numbers, n)
	}
	for _, base := range []int{2, 8, 10, 16} {
		for _, n := range numbers {
			s, e := Spell(n, base)
			if got, ok := Radix(s); got != n || !ok || e != api.OK {
				t.Fatalf("%d in %d is %q (%d): %d, %v", n, base, s, e, got, ok)
			}
		}
	}
}

// P1.4: the nearest multiples of small numbers, found by looking at all of them.
func TestRoundSmall(t *testing.T) {
	for to := 1; to <= 12; to++ {
		for n := -60; n <= 60; n++ {
			want := 0
			for m := -10 * to * 6; m <= 60*to; m += to {
				near, best := size(m-n), size(want-n)
				if near < best || near == best && size(m) > size(want) {
					want = m
				}
			}
			if got, e := Round(n, to); got != want || e != api.OK {
				t.Fatalf("Round of %d to %d is %d (%d), not %d", n, to, got, e, want)
			}
		}
	}
}

// P1.4: Round at the borders.
func TestRoundBorders(t *testing.T) {
	cases := [][3]int{
		{-15, 10, -20}, {15, 10, 20}, {-14, 10, -10}, {0, 7, 0},
		{api.MaxNum, 1, api.MaxNum}, {-api.MaxNum, 1, -api.MaxNum},
		{api.MaxNum, api.MaxNum, api.MaxNum}, {-api.MaxNum, api.MaxNum, -api.MaxNum},
		{api.MaxNum / 2, api.MaxNum, api.MaxNum}, {-api.MaxNum / 2, api.MaxNum, -api.MaxNum},
		{api.MaxNum/2 - 1, api.MaxNum, 0}, {1 - api.MaxNum/2, api.MaxNum, 0},
		{api.MaxNum, 5, api.MaxNum - 2}, {-api.MaxNum, 5, 2 - api.MaxNum},
	}
	for _, c := range cases {
		if n, e := Round(c[0], c[1]); n != c[2] || e != api.OK {
			t.Errorf("Round of %d to %d is %d (%d)", c[0], c[1], n, e)
		}
	}
	for _, c := range [][2]int{{api.MaxNum, 3}, {-api.MaxNum, 3}, {api.MaxNum, api.MaxNum/2 + 1}, {api.MaxNum - 1, api.MaxNum/2 + 1}} {
		if n, e := Round(c[0], c[1]); n != 0 || e != api.ErrLarge {
			t.Errorf("Round of %d to %d is %d (%d)", c[0], c[1], n, e)
		}
	}
	for _, c := range [][2]int{{1, 0}, {1, -1}, {1, api.MaxNum + 1}, {api.MaxNum + 1, 1}, {-api.MaxNum - 1, 1}, {-1 << 63, 1}, {api.MaxNum + 1, 0}, {1, -1 << 63}, {1, 1<<63 - 1}} {
		if n, e := Round(c[0], c[1]); n != 0 || e != api.ErrArg {
			t.Errorf("Round of %d to %d is %d (%d)", c[0], c[1], n, e)
		}
	}
}
