package stripe

import (
	"math/rand/v2"
	"testing"

	"terrace/api"
)

// P22.1, P22.2: every small plan, at every number beside its own ones.
func TestEverySmallPlan(t *testing.T) {
	for layers := 1; layers <= api.MaxLayers; layers++ {
		for bytes := 1; bytes <= 4; bytes++ {
			for size := range 24 {
				p, m := made(t, size, bytes, layers)
				for n := -2; n <= p.Blocks()+2; n++ {
					holds(t, p, m, n)
				}
			}
		}
	}
}

// P22.1, P22.2: any plans, asked in an open order.
func TestAnyPlans(t *testing.T) {
	found, ended, missed := 0, 0, 0
	for seed := range uint64(100) {
		x := rand.New(rand.NewPCG(22, seed))
		p, m := made(t, x.IntN(api.MaxObject+1)>>x.IntN(15), 1+x.IntN(api.MaxBlock)>>x.IntN(7), 1+x.IntN(api.MaxLayers))
		for range 200 {
			n, layer := x.IntN(p.Blocks()+3)-1, x.IntN(m.layers+2)-1
			block(t, p, m, n)
			switch _, ok := next(t, p, m, layer, n); {
			case ok:
				found++
			case layer >= 0 && layer < m.layers:
				ended++
			default:
				missed++
			}
			if x.IntN(10) == 0 {
				of(t, p, m, layer)
				upto(t, p, m, layer).Add(0, p.Blocks())
			}
		}
		holds(t, p, m, x.IntN(api.MaxObject))
	}
	if min(found, ended, missed) < 200 {
		t.Fatalf("%d found, %d ended, %d of no layer", found, ended, missed)
	}
}

// P1: every edge as each argument.
func TestAnyArguments(t *testing.T) {
	for _, c := range [][3]int{{0, 1, 1}, {0, 64, 8}, {1, 1, 8}, {105, 10, 4}, {200, 1, 1}, {api.MaxObject, 1, 8}, {api.MaxObject, 10, 5}, {api.MaxObject, 64, 2}} {
		p, m := made(t, c[0], c[1], c[2])
		holds(t, p, m, edges...)
		for _, layer := range edges {
			for _, from := range edges {
				next(t, p, m, layer, from)
			}
		}
	}
}

// FuzzCalls makes a plan of any three numbers, and asks it with any two others.
func FuzzCalls(f *testing.F) {
	f.Add(105, 10, 4, 2, 4)
	f.Add(0, 1, 1, 0, 0)
	f.Add(api.MaxObject, 1, 8, 7, 16383)
	f.Add(api.MaxObject+1, 1, 8, first, last)
	f.Add(first, last, first, last, first)
	f.Fuzz(func(t *testing.T, size, bytes, layers, n, other int) {
		made(t, size, bytes, layers)
		// Most of any numbers make no plan, so these are turned into ones that do.
		p, m := made(t, size&(api.MaxObject-1), 1+bytes&(api.MaxBlock-1), 1+layers&(api.MaxLayers-1))
		holds(t, p, m, n, other, n&127, other&127)
		next(t, p, m, n, other)
		next(t, p, m, other, n)
		next(t, p, m, n&7, other&(api.MaxObject-1))
		next(t, p, m, other&7, n&(api.MaxObject-1))
	})
}
