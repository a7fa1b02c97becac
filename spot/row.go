package spot

import (
	"slices"

	"frisket/api"
)

// Row answers spots in order, each once.
func Row(l []api.Spot) []api.Spot {
	places := make([]int, len(l)) // they are less to carry about than spots, and leave l as it is
	for i := range places {
		places[i] = i
	}
	slices.SortFunc(places, func(i, j int) int { return Cmp(l[i], l[j]) })
	out := make([]api.Spot, 0, len(l))
	for k, i := range places {
		if k == 0 || !Same(l[places[k-1]], l[i]) {
			out = append(out, reduced(l[i]))
		}
	}
	return out[:len(out):len(out)]
}
