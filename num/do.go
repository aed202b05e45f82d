package num

import "motley/api"

// beyond stands for every result that is out of the range of numbers.
const beyond = api.MaxNum + 1

// operation returns a result and 0, or 0 and why there is none.
type operation func(a, b int) (int, int)

// Do returns the result of an operation and 0, or 0 and why there is none.
func Do(op, a, b int) (int, int, api.Errno) {
	f, ok := operations()[op]
	if !ok || !isNumber(a) || !isNumber(b) {
		return 0, 0, api.ErrArg
	}
	n, why := f(a, b)
	return n, why, api.OK
}

// operations returns all operations; each is closed over what it refuses.
func operations() map[int]operation {
	never := func(a, b int) bool { return false }
	byZero := func(a, b int) bool { return b == 0 }
	downward := func(a, b int) bool { return b < 0 }
	signed := func(a, b int) bool { return a < 0 || b < 0 }
	return map[int]operation{
		api.Add: checked(never, api.DieRange, func(a, b int) int { return a + b }),
		api.Sub: checked(never, api.DieRange, func(a, b int) int { return a - b }),
		api.Mul: checked(never, api.DieRange, product),
		api.Div: checked(byZero, api.DieZero, quotient),
		api.Mod: checked(byZero, api.DieZero, remainder),
		api.Pow: checked(downward, api.DieRange, power),
		api.And: checked(signed, api.DieRange, func(a, b int) int { return a & b }),
		api.Or:  checked(signed, api.DieRange, func(a, b int) int { return a | b }),
		api.Xor: checked(signed, api.DieRange, func(a, b int) int { return a ^ b }),
	}
}

// checked makes an operation that refuses some arguments, and each result that is no number.
func checked(refuses func(a, b int) bool, why int, f func(a, b int) int) operation {
	return func(a, b int) (int, int) {
		if refuses(a, b) {
			return 0, why
		}
		n := f(a, b)
		if !isNumber(n) {
			return 0, api.DieRange
		}
		return n, 0
	}
}

// product returns a times b, or beyond; it divides because the product itself may not fit into an int.
func product(a, b int) int {
	if a != 0 && size(b) > api.MaxNum/size(a) {
		return beyond
	}
	return a * b
}

// quotient returns a divided by b, rounded down.
func quotient(a, b int) int {
	n := a / b
	if a%b != 0 && (a < 0) != (b < 0) {
		n--
	}
	return n
}

// remainder returns what quotient leaves, with the sign of b.
func remainder(a, b int) int {
	n := a % b
	if n != 0 && (n < 0) != (b < 0) {
		n += b
	}
	return n
}

// power returns a to the power b (from 0 on), or beyond.
func power(a, b int) int {
	if size(a) <= 1 && b > 2 {
		// These powers never leave the range: without this the loop would go on for all of b.
		b = 2 - b%2
	}
	n := 1
	for range b {
		n = product(n, a)
		if n == beyond {
			return beyond
		}
	}
	return n
}
