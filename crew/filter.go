package crew

import (
	"sync"

	"starling/api"
	"starling/bag"
)

// part: the rows that a worker keeps, or why there are none.
type part struct {
	rows [][]api.Value
	err  api.Errno
}

// Filter answers the rows of which an expression is true.
func Filter(l [][]api.Value, cols []string, e []api.Node, workers int) ([][]api.Value, api.Errno) {
	if err := checkWorkers(workers); err != api.OK {
		return nil, err
	}
	// A wrong row of a later part comes ahead of what an earlier part tells of the expression.
	if err := bag.Check(l); err != api.OK {
		return nil, err
	}
	var hands sync.WaitGroup
	var parts []<-chan part
	for worker := range workers {
		// Its room lets a worker end, even if nobody asks for its part any more.
		kept := make(chan part, 1)
		parts = append(parts, kept)
		hands.Go(func() {
			first, end := share(len(l), workers, worker)
			rows, err := bag.Filter(l[first:end], cols, e)
			kept <- part{rows, err}
		})
	}
	rows, err := inOrder(parts)
	hands.Wait()
	return rows, err
}

// inOrder answers the rows of parts, one part behind the other; an error of an earlier part is an earlier row's.
func inOrder(parts []<-chan part) ([][]api.Value, api.Errno) {
	var rows [][]api.Value
	for _, kept := range parts {
		p := <-kept
		if p.err != api.OK {
			return nil, p.err
		}
		rows = append(rows, p.rows...)
	}
	return rows, api.OK
}
