package record

import (
	"starling/api"
	"starling/num"
)

// gaveUp is what a reader panics with: why the bytes are no row.
type gaveUp struct{ why api.Errno }

// attempt answers why the reading gave up, OK if it came to its end.
func attempt(reading func()) (err api.Errno) {
	defer func() {
		if caught := recover(); caught != nil {
			// What is no gaveUp is a fault of the program, and goes on as a panic.
			err = caught.(gaveUp).why
		}
	}()
	reading()
	return api.OK
}

// reader takes bytes off the front of what is left of a text.
type reader struct{ rest string }

// next takes a byte; missing is why to give up, if there is none.
func (r *reader) next(missing api.Errno) byte {
	return r.take(1, missing)[0]
}

// take takes that many bytes; missing is why to give up, if there are fewer.
func (r *reader) take(size int, missing api.Errno) string {
	if len(r.rest) < size {
		panic(gaveUp{missing})
	}
	taken := r.rest[:size]
	r.rest = r.rest[size:]
	return taken
}

// number takes a number by one of the calls of chapter 1.
func number[N int64 | uint64](r *reader, read func(string) (N, int, api.Errno)) N {
	n, size, err := read(r.rest)
	if err != api.OK {
		panic(gaveUp{err})
	}
	r.rest = r.rest[size:]
	return n
}

// count takes how many things follow, at most that many.
func (r *reader) count(most uint64) int {
	n := number(r, num.Read)
	if n > most {
		panic(gaveUp{api.ErrMany})
	}
	return int(n)
}

// row takes what Write tells.
func (r *reader) row() []api.Value {
	row := make([]api.Value, r.count(api.MaxRow))
	for i := range row {
		row[i] = r.value()
	}
	return row
}

func (r *reader) value() api.Value {
	kind := int(r.next(api.ErrNone))
	switch kind {
	case api.Null:
		return api.Value{}
	case api.Int:
		return api.Value{Kind: kind, N: number(r, num.ReadSigned)}
	case api.Text, api.Blob:
		size := r.count(api.MaxText)
		return api.Value{Kind: kind, S: r.take(size, api.ErrNone)}
	}
	panic(gaveUp{api.ErrKind})
}
