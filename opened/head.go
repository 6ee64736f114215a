package opened

import (
	"strings"

	"starling/api"
	"starling/num"
)

// Heads: pages with which a file begins, each of which tells what it has.
const Heads = 2

// numbersAhead of those of tables: Next, how many pages forms fill, how many tables there are.
const numbersAhead = 3

// Head: what a file has. One whose Next is 0 stands for none.
type Head struct {
	Next      int
	FormPages int   // that the tables' forms fill once; they stand there twice
	RowPages  []int // that the rows of each table fill
}

// IsRight tells whether there is a head.
func (h Head) IsRight() bool {
	return h.Next > 0
}

// RowsAt tells the place at which the rows of a table begin; of one behind the last it is how many pages there are.
func (h Head) RowsAt(table int) int {
	at := Heads + 2*h.FormPages
	for _, count := range h.RowPages[:table] {
		at += count
	}
	return at
}

// Body tells a head as that of its page.
func (h Head) Body() string {
	return told(h.Next, h.FormPages, len(h.RowPages)) + told(h.RowPages...)
}

// told tells numbers that are not below 0 as bytes.
func told(numbers ...int) string {
	var b strings.Builder
	for _, n := range numbers {
		b.WriteString(num.Write(uint64(n)))
	}
	return b.String()
}

// headOf answers the head of a page's Body, or what stands for none, if it is not right.
func headOf(body string) Head {
	l, ok := numbersOf(body)
	if !ok || len(l) < numbersAhead {
		return Head{}
	}
	next, formPages, tables, counts := l[0], l[1], l[2], l[numbersAhead:]
	// Each number is looked at as it is read: what is far too great must not become small.
	if next > api.MaxId+1 || formPages > api.MaxPages || tables > api.MaxTables || tables != uint64(len(counts)) {
		return Head{}
	}
	h := Head{Next: int(next), FormPages: int(formPages)}
	for _, count := range counts {
		if count > api.MaxPages {
			return Head{}
		}
		h.RowPages = append(h.RowPages, int(count))
	}
	if h.RowsAt(len(h.RowPages)) > api.MaxFile {
		return Head{}
	}
	return h
}

// numbersOf answers the numbers of a text, if it is made of nothing else.
func numbersOf(s string) ([]uint64, bool) {
	var l []uint64
	for s != "" {
		n, size, err := num.Read(s)
		if err != api.OK {
			return nil, false
		}
		l = append(l, n)
		s = s[size:]
	}
	return l, true
}
