package loop

import (
	"fmt"
	"math/rand"
	"slices"
	"strconv"
	"strings"
	"testing"
)

func TestLaws(t *testing.T) {
	r := rand.New(rand.NewSource(6))
	for range 100 {
		x := New()
		type one struct{ due, id int }
		var all []one
		for i := range 1 + r.Intn(8) {
			d := r.Intn(5)
			told(x, fmt.Sprintf("after %d {lappend l %d}", d, i))
			all = append(all, one{d, i})
		}
		if gone := r.Intn(len(all)); r.Intn(2) == 0 {
			told(x, "after cancel after"+strconv.Itoa(gone+1))
			all = slices.Delete(all, gone, gone+1)
		}
		slices.SortStableFunc(all, func(a, b one) int { return a.due - b.due })
		var want []string
		for _, a := range all {
			want = append(want, strconv.Itoa(a.id))
		}
		Pass(x, 2, 1000)
		Pass(x, 3, 1000)
		if got, _ := x.Get("l"); got != strings.Join(want, " ") {
			t.Fatalf("%v: %q", all, got)
		}
	}
}
