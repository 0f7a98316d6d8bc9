package token

import (
	"math/big"
	"regexp"
	"strconv"
	"strings"
	"testing"

	"mortise/api"
)

const (
	mostInt  = 2147483647
	mostUInt = 4294967295
)

// spelled are the ways to write a number that is not 0, one of each base.
func spelled(n uint64) (ten, eight string, sixteen []string) {
	hex := strconv.FormatUint(n, 16)
	return strconv.FormatUint(n, 10), "0" + strconv.FormatUint(n, 8), []string{"0x" + hex, "0X" + strings.ToUpper(hex), "0x000" + hex}
}

// endings are all endings of numbers, by whether they have u and l.
func endings() map[string][2]bool {
	return map[string][2]bool{
		"": {false, false}, "u": {true, false}, "U": {true, false}, "l": {false, true}, "L": {false, true},
		"ul": {true, true}, "uL": {true, true}, "Ul": {true, true}, "UL": {true, true},
		"lu": {true, true}, "lU": {true, true}, "Lu": {true, true}, "LU": {true, true},
	}
}

// wantNumber asks what P2.2 says of a number with that ending.
func wantNumber(t *testing.T, s string, n uint64, ten, u, l bool) {
	t.Helper()
	kind := "int"
	if l {
		kind = "long"
	}
	switch {
	case n > mostUInt || n > mostInt && ten && !u:
		wantFault(t, s, api.ErrNumber, 0)
		return
	case u || n > mostInt:
		kind = "unsigned " + kind
	}
	wantOne(t, s, api.Token{Kind: api.TokInt, Text: kind, Num: int(n)})
}

func TestP2_2Numbers(t *testing.T) {
	for _, n := range []uint64{1, 2, 7, 8, 9, 10, 15, 16, 255, 256, 0xabcdef, mostInt - 1, mostInt, mostInt + 1, mostInt + 2, mostUInt - 1, mostUInt, mostUInt + 1, mostUInt + 2, 1 << 35, 1 << 36, 1<<63 + 1, 1<<64 - 1} {
		ten, eight, sixteen := spelled(n)
		for end, ul := range endings() {
			wantNumber(t, ten+end, n, true, ul[0], ul[1])
			wantNumber(t, eight+end, n, false, ul[0], ul[1])
			wantNumber(t, "00"+eight+end, n, false, ul[0], ul[1])
			for _, s := range sixteen {
				wantNumber(t, s+end, n, false, ul[0], ul[1])
			}
		}
	}
}

func TestP2_2Noughts(t *testing.T) {
	for end, ul := range endings() {
		for _, s := range []string{"0", "00", "0x0", "0X00", "000000"} {
			wantNumber(t, s+end, 0, false, ul[0], ul[1])
		}
	}
}

func TestP2_2LongNumbers(t *testing.T) {
	noughts := strings.Repeat("0", api.MaxText-3)
	wantOne(t, noughts+"17", api.Token{Kind: api.TokInt, Text: "int", Num: 15})
	wantOne(t, "0x"+noughts+"f", api.Token{Kind: api.TokInt, Text: "int", Num: 15})
	for _, s := range []string{"1" + noughts, "0x1" + noughts, "01" + noughts, strings.Repeat("9", 30), "18446744073709551616", "18446744073709551617u", "0x10000000000000001", "02000000000000000000001"} {
		wantFault(t, s, api.ErrNumber, 0)
	}
}

func TestP2_2NoNumbers(t *testing.T) {
	for _, s := range []string{"08", "09", "018", "1x", "2147483648", "0x", "0X", "1ull", "4294967296u", "0xu", "0xl", "0xg", "1_", "1_000", "0b1", "1uu", "1ll", "1lul", "1ulu", "1e5", "1f", "0x1g", "0a", "08u", "0lx", "1a", "12int", "0xx1", "1lL", "1Uu"} {
		wantFault(t, s, api.ErrNumber, 0)
		wantFault(t, "\n x "+s+" @", api.ErrNumber, 4)
	}
}

// TestP2_2AllNumbers holds every short text that begins with a digit against a pattern.
func TestP2_2AllNumbers(t *testing.T) {
	shape := regexp.MustCompile(`^(?:0[xX]([0-9a-fA-F]+)|(0[0-7]*)|([1-9][0-9]*))([uU]?[lL]?|[lL][uU])$`)
	const letters = "0179afgxXuULl_"
	var all func(s string, left int)
	all = func(s string, left int) {
		m := shape.FindStringSubmatch(s)
		if m == nil {
			wantFault(t, s, api.ErrNumber, 0)
		} else {
			base := map[bool]int{true: 16, false: 8}[m[1] != ""]
			if m[3] != "" {
				base = 10
			}
			n, _ := new(big.Int).SetString(m[1]+m[2]+m[3], base)
			wantNumber(t, s, n.Uint64(), base == 10, strings.ContainsAny(m[4], "uU"), strings.ContainsAny(m[4], "lL"))
		}
		for i := 0; i < len(letters) && left > 0; i++ {
			all(s+letters[i:i+1], left-1)
		}
	}
	for _, first := range []string{"0", "1", "7", "8", "9"} {
		all(first, 3)
	}
}
