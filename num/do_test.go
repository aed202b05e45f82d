package num

import (
	"math/big"
	"testing"

	"motley/api"
)

// exact returns what Do must, computed with integers of any size.
func exact(op, a, b int) (int, int) {
	x, y, n := big.NewInt(int64(a)), big.NewInt(int64(b)), new(big.Int)
	switch {
	case (op == api.Div || op == api.Mod) && b == 0:
		return 0, api.DieZero
	case op == api.Pow && b < 0, op >= api.And && (a < 0 || b < 0):
		return 0, api.DieRange
	}
	floor := func() *big.Int {
		quo, rem := new(big.Int).QuoRem(x, y, new(big.Int))
		if rem.Sign()*y.Sign() < 0 {
			quo.Sub(quo, big.NewInt(1))
		}
		return quo
	}
	switch op {
	case api.Add:
		n.Add(x, y)
	case api.Sub:
		n.Sub(x, y)
	case api.Mul:
		n.Mul(x, y)
	case api.Div:
		n = floor()
	case api.Mod:
		n.Sub(x, n.Mul(y, floor()))
	case api.Pow:
		// A power above 60 is out of the range or repeats that of 60 or 61.
		n.Exp(x, big.NewInt(int64(min(b, 60+b%2))), nil)
	case api.And:
		n.And(x, y)
	case api.Or:
		n.Or(x, y)
	case api.Xor:
		n.Xor(x, y)
	}
	if n.CmpAbs(big.NewInt(api.MaxNum)) > 0 {
		return 0, api.DieRange
	}
	return int(n.Int64()), 0
}

// P1.2: all operations on many numbers, those at the borders among them.
func TestDoExact(t *testing.T) {
	numbers := []int{1 << 26, 1<<26 + 1, 1 << 27, 94906265, 94906266, 94906267, 208063, 208064, 208065, 1 << 52, 1<<52 + 1, 1<<52 - 1, api.MaxNum / 3, api.MaxNum - 1, api.MaxNum}
	for n := range 60 {
		numbers = append(numbers, n)
	}
	for _, n := range numbers {
		numbers = append(numbers, -n)
	}
	for op := api.Add; op <= api.Xor; op++ {
		for _, a := range numbers {
			for _, b := range numbers {
				want, reason := exact(op, a, b)
				n, why, e := Do(op, a, b)
				if n != want || why != reason || e != api.OK {
					t.Fatalf("Do(%d, %d, %d) is %d, %d, %d, not %d, %d", op, a, b, n, why, e, want, reason)
				}
			}
		}
	}
}

// P1.2: what the chapter says word by word.
func TestDoCases(t *testing.T) {
	cases := [][5]int{
		{api.Add, 2, 3, 5, 0},
		{api.Add, api.MaxNum, -1, api.MaxNum - 1, 0},
		{api.Add, api.MaxNum, 1, 0, api.DieRange},
		{api.Sub, -api.MaxNum, 1, 0, api.DieRange},
		{api.Mul, 1 << 26, 1 << 27, api.MaxNum, 0},
		{api.Mul, -1 << 26, 1 << 27, -api.MaxNum, 0},
		{api.Mul, 1 << 32, 1 << 32, 0, api.DieRange},
		{api.Mul, api.MaxNum, api.MaxNum, 0, api.DieRange},
		{api.Div, -7, 2, -4, 0},
		{api.Div, 7, -2, -4, 0},
		{api.Div, -7, -2, 3, 0},
		{api.Div, -8, 2, -4, 0},
		{api.Div, -api.MaxNum, -1, api.MaxNum, 0},
		{api.Div, 0, 0, 0, api.DieZero},
		{api.Mod, -7, 3, 2, 0},
		{api.Mod, 7, -3, -2, 0},
		{api.Mod, -7, -3, -1, 0},
		{api.Mod, 6, -3, 0, 0},
		{api.Mod, 1, -api.MaxNum, 1 - api.MaxNum, 0},
		{api.Mod, 1, 0, 0, api.DieZero},
		{api.Pow, 0, 0, 1, 0},
		{api.Pow, -5, 0, 1, 0},
		{api.Pow, 2, 53, api.MaxNum, 0},
		{api.Pow, -2, 53, -api.MaxNum, 0},
		{api.Pow, 2, 54, 0, api.DieRange},
		{api.Pow, 2, 64, 0, api.DieRange},
		{api.Pow, 1, -1, 0, api.DieRange},
		{api.Pow, 0, api.MaxNum, 0, 0},
		{api.Pow, 1, api.MaxNum, 1, 0},
		{api.Pow, -1, api.MaxNum, 1, 0},
		{api.Pow, -1, api.MaxNum - 1, -1, 0},
		{api.Pow, api.MaxNum, api.MaxNum, 0, api.DieRange},
		{api.And, 12, 10, 8, 0},
		{api.Or, 12, 10, 14, 0},
		{api.Xor, 12, 10, 6, 0},
		{api.And, -1, 1, 0, api.DieRange},
		{api.And, 1, -1, 0, api.DieRange},
		{api.Or, 1, -1, 0, api.DieRange},
		{api.Xor, -1, 1, 0, api.DieRange},
		{api.Or, api.MaxNum, 1, 0, api.DieRange},
		{api.Xor, api.MaxNum, api.MaxNum, 0, 0},
	}
	for _, c := range cases {
		if n, why, e := Do(c[0], c[1], c[2]); n != c[3] || why != c[4] || e != api.OK {
			t.Errorf("Do(%d, %d, %d) is %d, %d, %d", c[0], c[1], c[2], n, why, e)
		}
	}
}

// P1.2: arguments that are none come before all reasons.
func TestDoArguments(t *testing.T) {
	cases := [][3]int{
		{-1, 1, 1}, {9, 1, 1}, {1 << 62, 0, 0},
		{api.Add, api.MaxNum + 1, 0}, {api.Add, 0, api.MaxNum + 1},
		{api.Add, -api.MaxNum - 1, 0}, {api.Add, 0, -api.MaxNum - 1},
		{api.Div, api.MaxNum + 1, 0}, {api.Mod, -1 << 63, 0}, {api.And, -1 << 63, 1}, {api.Pow, 2, -1 << 63},
	}
	for _, c := range cases {
		if n, why, e := Do(c[0], c[1], c[2]); n != 0 || why != 0 || e != api.ErrArg {
			t.Errorf("Do(%d, %d, %d) is %d, %d, %d", c[0], c[1], c[2], n, why, e)
		}
	}
}

// P1.2: comparisons.
func TestCompare(t *testing.T) {
	for _, c := range [][3]int{{1, 2, -1}, {2, 1, 1}, {3, 3, 0}, {-1, 1, -1}, {-1 << 63, 1<<63 - 1, -1}, {1<<63 - 1, -1 << 63, 1}} {
		if Compare(c[0], c[1]) != c[2] {
			t.Errorf("Compare of %d and %d is %d", c[0], c[1], Compare(c[0], c[1]))
		}
	}
	cases := []struct {
		s, t string
		want int
	}{
		{"", "", 0}, {"a", "a", 0}, {"", "a", -1}, {"a", "", 1}, {"a", "ab", -1}, {"b", "ab", 1}, {"B", "a", -1},
		{"10", "9", -1}, {"\xff", "é", 1}, {"a\x00", "a", 1}, {"é", "z", 1},
	}
	for _, c := range cases {
		if CompareText(c.s, c.t) != c.want {
			t.Errorf("CompareText of %q and %q is %d", c.s, c.t, CompareText(c.s, c.t))
		}
	}
}
