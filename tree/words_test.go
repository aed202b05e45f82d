package tree

import (
	"strings"
	"testing"
)

const grammarWords = "my our local sub return package last next if unless elsif else while until for do eval map grep sort and or not x lt gt le ge eq ne cmp BEGIN END q qq qw m s tr"

// The functions of the language, with how many arguments they take.
const arities = `print n, push 1 to n, unshift 1 to n, pop 1, shift 0 or 1, keys 1, values 1, delete 1, exists 1, defined 1, scalar 1, wantarray 0,
 join 1 to n, split 2, reverse n, length 1, substr 2 or 3, index 2, uc 1, lc 1, ord 1, chr 1, ref 1, bless 2, die n, weaken 1, tie 2 to n, untie 1, input 0,
 guard 1, tainted 1, abs 1, undef 0 or 1, evaluate 1`

// P4.2: how many arguments functions take.
func TestArity(t *testing.T) {
	number := map[string]int{"n": -1, "0": 0, "1": 1, "2": 2, "3": 3}
	for _, s := range strings.Split(arities, ",") {
		f := strings.Fields(s)
		least, most := number[f[1]], number[f[len(f)-1]]
		if least == -1 {
			least = 0
		}
		if a, b, ok := Arity(f[0]); a != least || b != most || !ok {
			t.Errorf("Arity of %s is %d, %d, %v", f[0], a, b, ok)
		}
		if IsName(f[0]) {
			t.Errorf("%s is a name", f[0])
		}
	}
	for _, s := range append(strings.Fields(grammarWords), "", "Print", "prints", "f", "$x", "print ", "\xff") {
		if a, b, ok := Arity(s); a != 0 || b != 0 || ok {
			t.Errorf("Arity of %q is %d, %d, %v", s, a, b, ok)
		}
	}
}

// P4.1: names are words that are none of those of the grammar.
func TestIsName(t *testing.T) {
	for _, s := range strings.Fields(grammarWords) {
		if IsName(s) {
			t.Errorf("%s is a name", s)
		}
	}
	for _, s := range []string{"", "1", "1a", "a b", "a:b", "a::", "::a", "a::1", "abcdefghijklm", "a2345::b90123", "$x", "a-b", "\u00e9", "a\n", strings.Repeat("a", 100000)} {
		if IsName(s) {
			t.Errorf("%.20q is a name", s)
		}
	}
	for _, s := range []string{"a", "_", "_1", "f", "y", "A::b::_c9", "my::a", "SUPER::x", "x1", "Print", "begin", "foreach", "abcdefghijkl", "a2345::b9012", "print_", "DESTROY"} {
		if !IsName(s) {
			t.Errorf("%s is no name", s)
		}
	}
}
