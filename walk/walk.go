// Package walk: how expressions are gone through, from their leaves up.
package walk

import "starling/api"

// Up asks of each node, in the list's order, what is told of it and of what was told of its kids; it answers what was told of each expression that belongs to nobody. A node that has fewer kids ahead of it than it names is handed those that there are. What comes as kids is not to be kept: the room is used again.
func Up[T any](e []api.Node, told func(n api.Node, kids []T) (T, api.Errno)) ([]T, api.Errno) {
	var free []T
	for _, n := range e {
		first := len(free) - min(max(n.Kids, 0), len(free))
		one, err := told(n, free[first:])
		if err != api.OK {
			return nil, err
		}
		free = append(free[:first], one)
	}
	return free, api.OK
}
