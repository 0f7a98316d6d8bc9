package check

import (
	"errors"
	"strconv"

	"mortise/api"
)

// fault is what a check panics with: the first thing that is wrong, and where.
type fault api.Fault

// Error tells the number and the spot.
func (f fault) Error() string {
	return "error " + strconv.Itoa(int(f.Code)) + " in line " + strconv.Itoa(f.At.Line) + ", column " + strconv.Itoa(f.At.Col)
}

// refuse gives up, unless the number is OK.
func refuse(code api.Errno, at api.Spot) {
	if code != api.OK {
		panic(fault{Code: code, At: at})
	}
}

// want gives up with a number, unless something holds.
func want(holds bool, code api.Errno, at api.Spot) {
	if !holds {
		refuse(code, at)
	}
}

// attempt does what may give up, and answers why it did.
func attempt(do func()) (wrong api.Fault) {
	defer func() {
		switch e := recover().(type) {
		case nil:
		case error:
			wrong = faultOf(e)
		default:
			panic(e)
		}
	}()
	do()
	return api.Fault{}
}

// faultOf is the fault that has come up. Any other error is none of a check's.
func faultOf(err error) api.Fault {
	var f fault
	if !errors.As(err, &f) {
		panic(err)
	}
	return api.Fault(f)
}
