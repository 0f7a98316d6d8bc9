package initial

import (
	"errors"
	"strconv"

	"mortise/api"
)

// refusal is why an initialiser, or a leaf, does not fit its object.
type refusal struct{ code api.Errno }

// Error tells the number.
func (r refusal) Error() string { return "refused with error " + strconv.Itoa(int(r.code)) }

// refuse is the refusal with a number, and no error of OK.
func refuse(code api.Errno) error {
	if code == api.OK {
		return nil
	}
	return refusal{code}
}

// codeOf is the number of the refusal that has come up.
func codeOf(err error) api.Errno {
	var r refusal
	if errors.As(err, &r) {
		return r.code
	}
	return api.OK
}
