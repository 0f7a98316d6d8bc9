package tacrun

import (
	"testing"

	"mortise/api"
)

// TestP14_1Example is the chapter's first example.
func TestP14_1Example(t *testing.T) {
	for text, want := range map[string]api.Outcome{
		"func main 0 1 gives; add t0 #2 #3; ret t0; main 0": {Stop: api.StopExit, Code: 5, Steps: 2},
		"func main 0 1 gives; ret t0; main 0":               {Stop: api.StopUndef, Steps: 1},
	} {
		if o := ran(t, lined(text), "", enough); !same(o, want) {
			t.Errorf("%s: %s", text, shown(o))
		}
	}
}

// TestP14_2Example is the chapter's second example.
func TestP14_2Example(t *testing.T) {
	const ahead = "slot 4 4; addr t0 0 0; store t0 0 #7 4; "
	runs(t,
		exits(ahead+"load t1 t0 0 1; ret t1", 7),
		undefined(ahead+"load t1 t0 2 4; ret t1"),
	)
}
