package lower

import (
	"testing"

	"mortise/api"
	"mortise/tacrun"
)

// TestP15_3Example is the chapter's first example.
func TestP15_3Example(t *testing.T) {
	const text = "int main(void) { putchar(65); return 3; }"
	runs(t, sample{text: text, stop: api.StopExit, code: 3, out: "A"})
	p, f := Text(text)
	o, err := tacrun.Run(p, nil, 1000)
	if f != (api.Fault{}) || err != api.OK || o.Stop != api.StopExit || o.Code != 3 || string(o.Out) != "A" {
		t.Errorf("fault %v, error %d, %v", f, err, o)
	}
}

// TestP15_1Example is the chapter's second example.
func TestP15_1Example(t *testing.T) {
	faulty(t, "int main(void) { return x; }", api.Fault{Code: api.ErrName, At: api.Spot{Line: 1, Col: 25, Off: 24}})
}
