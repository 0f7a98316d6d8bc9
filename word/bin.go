package word

import "mortise/api"

// names has the operations' names, in the order of their numbers.
var names = [...]string{
	"add", "sub", "mul", "divs", "divu", "rems", "remu", "and", "or", "xor",
	"shl", "shrs", "shru", "eq", "ne", "lts", "ltu", "les", "leu",
}

// Name is an operation's name.
func Name(op api.BinOp) string {
	if op < api.OpAdd || op > api.OpLeU {
		return ""
	}
	return names[op-api.OpAdd]
}

// Bin does an operation.
func Bin(op api.BinOp, a uint32, b uint32) (uint32, bool) {
	switch op {
	case api.OpSub:
		b = -b // modulo 2^32, so that the sum's lowest bits are the difference's
		fallthrough
	case api.OpAdd:
		return a + b, true
	case api.OpMul:
		return a * b, true
	case api.OpDivS, api.OpDivU, api.OpRemS, api.OpRemU:
		return divide(op, a, b)
	case api.OpAnd:
		return a & b, true
	case api.OpOr:
		return a | b, true
	case api.OpXor:
		return a ^ b, true
	case api.OpShl, api.OpShrS, api.OpShrU:
		return shift(op, a, b%32), true
	}
	return compare(op, a, b)
}

// divide does the four operations that have no answer where b is 0.
func divide(op api.BinOp, a uint32, b uint32) (uint32, bool) {
	if b == 0 {
		return 0, false
	}
	switch op {
	case api.OpDivS:
		return Of(Int(a) / Int(b)), true
	case api.OpDivU:
		return a / b, true
	case api.OpRemS:
		return Of(Int(a) % Int(b)), true
	}
	return a % b, true
}

// shift moves a by that many places.
func shift(op api.BinOp, a uint32, places uint32) uint32 {
	switch op {
	case api.OpShl:
		return a << places
	case api.OpShrS:
		return uint32(int32(a) >> places)
	}
	return a >> places
}

// highest turned over in two numbers makes their signed order the unsigned one.
const highest = 1 << 31

// compare does the operations that answer 1 or 0, and refuses all that are none.
func compare(op api.BinOp, a uint32, b uint32) (uint32, bool) {
	switch op {
	case api.OpEq:
		return truth(a == b), true
	case api.OpNe:
		return truth(a != b), true
	case api.OpLtS:
		a, b = a^highest, b^highest
		fallthrough
	case api.OpLtU:
		return truth(a < b), true
	case api.OpLeS:
		a, b = a^highest, b^highest
		fallthrough
	case api.OpLeU:
		return truth(a <= b), true
	}
	return 0, false
}
