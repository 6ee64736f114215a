package crew

import (
	"math"
	"runtime"
	"runtime/metrics"
	"slices"
	"strings"
	"testing"
	"time"

	"starling/api"
)

// heavy has an expression of many nodes, all of which are reckoned for each row.
func heavy(t *testing.T) []api.Node {
	return parsed(t, "a + (b * 2 - a % 7) between (a - 1) * (b + 1) and 90 or 'wren' like '%_r%n' and not a in (b, b + 1, b + 2, 3 * b, a + a) or a / 2 * 2 < a - b")
}

// work: calls that have something to do for each worker; the last one's first row has an error, so that its answer is known early.
func work(t *testing.T) map[string]func(workers int) {
	pages, l, e := sealed(t, 32), numbered(40), heavy(t)
	late := numbered(40)
	late[0] = []api.Value{text("x"), null}
	return map[string]func(workers int){
		"Open":         func(workers int) { Open(pages, workers) },
		"Filter":       func(workers int) { Filter(l, []string{"a", "b"}, e, workers) },
		"Filter, late": func(workers int) { Filter(late, []string{"a", "b"}, e, workers) },
	}
}

// begun tells how many goroutines were begun while something was done; the least number of several times, for the language's own may come in between.
func begun(do func()) int {
	count := func() int {
		sample := []metrics.Sample{{Name: "/sched/goroutines-created:goroutines"}}
		metrics.Read(sample)
		return int(sample[0].Value.Uint64())
	}
	least := math.MaxInt
	for range 20 {
		before := count()
		do()
		least = min(least, count()-before)
	}
	return least
}

// Y3: the work is done by so many, even if there is less of it; of Sums one hands on.
func TestSoMany(t *testing.T) {
	one := parsed(t, "1")
	for workers := 1; workers <= 8; workers++ {
		for name, do := range work(t) {
			if n := begun(func() { do(workers) }); n != workers {
				t.Errorf("%s: %d; want %d", name, n, workers)
			}
		}
		for n := range 3 {
			if n := begun(func() { Open(make([]string, n), workers) }); n != workers {
				t.Errorf("Open: %d; want %d", n, workers)
			}
			if n := begun(func() { Filter(list(n, 0), nil, one, workers) }); n != workers {
				t.Errorf("Filter: %d; want %d", n, workers)
			}
		}
	}
	for _, l := range [][]string{nil, {""}, sealed(t, 32)} {
		if n := begun(func() { Sums(l) }); n != 1 {
			t.Errorf("Sums: %d; want 1", n)
		}
	}
}

// others tells how many goroutines but the one that asks are within the package, at one moment.
func others() int {
	all := make([]byte, 1<<18)
	stacks := strings.Split(string(all[:runtime.Stack(all, true)]), "\n\n")
	count := 0
	for _, stack := range stacks[1:] {
		// The line behind each frame's names a file: only the names of functions are asked for.
		if strings.Contains(stack, "\nstarling/crew.") {
			count++
		}
	}
	return count
}

// Y3: so many are there at once: none waits until another one has ended. On one processor one that looks on gets its turn ahead of all workers but the last one.
func TestAtOnce(t *testing.T) {
	defer runtime.GOMAXPROCS(runtime.GOMAXPROCS(1))
	for name, do := range work(t) {
		for workers := 3; workers <= 8; workers++ {
			most := 0
			for range 200 {
				before := runtime.NumGoroutine()
				seen := make(chan int, 1)
				go func() { seen <- runtime.NumGoroutine() - before - 1 }()
				do(workers)
				most = max(most, <-seen)
			}
			if most < workers-1 {
				t.Errorf("%s: %d at once; want %d", name, most, workers)
			}
		}
	}
}

// Y3: when a call answers, nobody works any more, with an error too, and soon nobody is left.
func TestAllHaveEnded(t *testing.T) {
	pages, more := sealed(t, 32), sealed(t, 32)
	calls := work(t)
	calls["Sums"] = func(int) { Sums(pages) }
	calls["Sums of none"] = func(int) { Sums(nil) }
	calls["Sums of too many"] = func(int) { Sums(slices.Repeat(pages, 2)) }
	calls["Open of too many"] = func(workers int) { Open(append(more, ""), workers) }
	calls["Filter of too many"] = func(workers int) { Filter(list(41, 2), []string{"a", "b"}, heavy(t), workers) }
	calls["Filter without a column"] = func(workers int) { Filter(numbered(40), []string{"a", "b"}, parsed(t, "z"), workers) }
	before := runtime.NumGoroutine()
	for name, do := range calls {
		for workers := -1; workers <= 9; workers++ {
			for range 40 {
				do(workers)
				if n := others(); n != 0 {
					t.Fatalf("%s, %d: %d work on", name, workers, n)
				}
			}
		}
	}
	for end := time.Now().Add(30 * time.Second); runtime.NumGoroutine() > before; runtime.Gosched() {
		if time.Now().After(end) {
			t.Fatalf("%d are left", runtime.NumGoroutine()-before)
		}
	}
}

// Y3, P3: who is faster is not seen: on few and on many processors the same call answers the same, again and again.
func TestWhoIsFaster(t *testing.T) {
	defer runtime.GOMAXPROCS(runtime.GOMAXPROCS(0))
	d := draw(5)
	es := append(drawnExprs(t), heavy(t))
	for _, processors := range []int{1, 2, 3, 16} {
		runtime.GOMAXPROCS(processors)
		for range 100 {
			pages, l, e := drawnPages(t, &d), drawnRows(&d), es[d.below(len(es))]
			for workers := 1; workers <= 8; workers++ {
				for range 2 {
					open(t, pages, workers)
					filter(t, l, []string{"a"}, e, workers)
				}
			}
			sums(t, pages)
		}
	}
}
