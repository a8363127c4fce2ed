package objects

import (
	"math/rand"
	"slices"
	"testing"
)

// 29.1: orders held against the document's telling, word by word
func TestOrders(t *testing.T) {
	r := rand.New(rand.NewSource(1))
	for range 5000 {
		n := 1 + r.Intn(6)
		supers, mixins := make([][]int, n), make([][]int, n)
		for i := range n {
			for j := range n {
				if j > i && r.Intn(3) == 0 {
					supers[i] = append(supers[i], j)
				}
				if r.Intn(5) == 0 {
					mixins[i] = append(mixins[i], j)
				}
			}
			r.Shuffle(len(supers[i]), func(a, b int) { supers[i][a], supers[i][b] = supers[i][b], supers[i][a] })
		}
		var full func(c int) []int
		full = func(c int) []int {
			l := []int{c}
			for _, s := range supers[c] {
				l = append(l, full(s)...)
			}
			return l
		}
		order := func(c int) []int {
			var l []int
			f := full(c)
			for i, x := range f {
				if !slices.Contains(f[i+1:], x) {
					l = append(l, x)
				}
			}
			return l
		}
		var mixed func(c int, way []int) []int
		mixed = func(c int, way []int) []int {
			way = append(slices.Clone(way), c)
			var out []int
			put := func(l ...int) {
				for _, x := range l {
					if !slices.Contains(out, x) {
						out = append(out, x)
					}
				}
			}
			for _, k := range order(c) {
				for _, m := range mixins[k] {
					if !slices.Contains(way, m) {
						put(mixed(m, way)...)
					}
				}
				put(k)
			}
			return out
		}
		for c := range n {
			o, _ := Order(supers, c)
			m, e := Mixed(supers, mixins, c)
			if e != 0 || !slices.Equal(o, order(c)) || !slices.Equal(m, mixed(c, nil)) {
				t.Fatalf("%v %v %d: %v %v, %v %v", supers, mixins, c, o, order(c), m, mixed(c, nil))
			}
		}
	}
}
