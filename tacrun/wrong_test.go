package tacrun

import (
	"math"
	"math/rand"
	"reflect"
	"testing"

	"mortise/api"
	"mortise/tac"
)

// spoil turns one thing somewhere within a value.
func (g *grower) spoil(v reflect.Value) {
	switch v.Kind() {
	case reflect.Struct:
		g.spoil(v.Field(g.Intn(v.NumField())))
	case reflect.Slice:
		if n := v.Len(); n == 0 || g.Intn(12) == 0 {
			v.Set(reflect.Append(v.Slice(0, max(n-1, 0)), reflect.Zero(v.Type().Elem())))
		} else {
			g.spoil(v.Index(g.Intn(n)))
		}
	case reflect.String:
		v.SetString(one(g, "", "f0", "f1", "a", "#1", "#", "1a"))
	case reflect.Bool:
		v.SetBool(!v.Bool())
	case reflect.Int:
		v.SetInt(one(g, v.Int()-1, v.Int()+1, v.Int()+4, -v.Int(), 0, math.MinInt, math.MaxInt, 1<<32, 16384, 4096, 256))
	case reflect.Uint8, reflect.Uint32:
		v.SetUint(one(g, v.Uint()-1, v.Uint()+1, 0, uint64(g.Uint32())) & (1<<v.Type().Bits() - 1))
	}
}

// TestP14_1Spoilt: of programs with something turned in them those are refused that layer 13 does not take, and the others run as the second telling says.
func TestP14_1Spoilt(t *testing.T) {
	g := &grower{Rand: rand.New(rand.NewSource(45))}
	good, bad := 0, 0
	for range 400 {
		p := g.program()
		for range 30 {
			q := copied(p)
			for range 1 + g.Intn(2) {
				g.spoil(reflect.ValueOf(&q).Elem())
			}
			if tac.Check(q) == api.OK {
				good++
				agrees(t, q, "ab", grownFuel)
				refused(t, q, 0, api.ErrArg)
			} else {
				bad++
				refused(t, q, grownFuel, api.ErrTac)
				refused(t, q, 0, api.ErrTac)
			}
		}
	}
	if good < 1000 || bad < 5000 {
		t.Errorf("%d spoilt programs may be, %d may not: too few", good, bad)
	}
}
