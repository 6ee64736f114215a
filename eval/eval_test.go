package eval

import (
	"math"
	"slices"
	"sync"
	"testing"

	"starling/api"
	"starling/expr"
	"starling/lex"
)

func parsed(t *testing.T, s string) []api.Node {
	t.Helper()
	l, _, err := lex.Lex(s)
	if err != api.OK {
		t.Fatalf("%s: %d", s, err)
	}
	e, err := expr.Parse(l)
	if err != api.OK {
		t.Fatalf("%s: %d", s, err)
	}
	return e
}

func checkEval(t *testing.T, e []api.Node, cols []string, row []api.Value) {
	t.Helper()
	v, err := Eval(e, cols, row)
	if want, wantErr := modelEval(e, cols, row); v != want || err != wantErr {
		t.Fatalf("Eval(%v, %q, %v) = %v, %d; want %v, %d", e, cols, row, v, err, want, wantErr)
	}
	truth, err := Truth(e, cols, row)
	if want, wantErr := modelTruth(e, cols, row); truth != want || err != wantErr {
		t.Fatalf("Truth(%v, %q, %v) = %d, %d; want %d, %d", e, cols, row, truth, err, want, wantErr)
	}
}

func values() []api.Value {
	return []api.Value{null, num(0), num(1), num(-1), num(2), num(-7), num(math.MaxInt64), num(math.MinInt64), text(""), text("a"), text("ab"), text("a%"), text("_"), text(`a\`), text(long(16)), blob(""), blob("a"), blob("\xff")}
}

// ops tells all ops that have kids, and how many each may have.
func ops() map[int][]int {
	m := map[int][]int{}
	for o := api.OpNeg; o <= api.OpNotBetween; o++ {
		for kids := 1; kids <= 7; kids++ {
			e := append(slices.Repeat(list(lit(null)), kids), op(o, kids))
			if expr.Check(e) == api.OK {
				m[o] = append(m[o], kids)
			}
		}
	}
	return m
}

// J1, J2, J3: each op of one, two and three kids with values of each kind, Nulls beside them.
func TestOps(t *testing.T) {
	names := []string{"a", "b", "c"}
	for o, sizes := range ops() {
		for _, kids := range sizes {
			if kids > 3 {
				continue
			}
			e := append(list(col("a"), col("b"), col("c"))[:kids], op(o, kids))
			for _, a := range values() {
				for _, b := range values() {
					for _, c := range values() {
						checkEval(t, e, names[:kids], []api.Value{a, b, c}[:kids])
						if kids < 3 {
							break
						}
					}
					if kids < 2 {
						break
					}
				}
			}
		}
	}
}

// J2: a list of as many as may be, with what is looked for in each place, Nulls and other kinds around.
func TestIn(t *testing.T) {
	d := draw(1)
	some := []api.Value{null, null, num(1), text("1"), blob("1"), num(2), text("")}
	cols := []string{"a", "b", "c", "d", "e", "f", "g"}
	for range 20000 {
		for _, o := range []int{api.OpIn, api.OpNotIn} {
			kids := 2 + d.below(6)
			var e []api.Node
			var row []api.Value
			for i := range kids {
				e = append(e, col(cols[i]))
				row = append(row, some[d.below(len(some))])
			}
			checkEval(t, append(e, op(o, kids)), cols[:kids], row)
		}
	}
}

// J1, J2: what is told, in words.
func TestEval(t *testing.T) {
	cols := []string{"a", "b", "a", "n"}
	row := []api.Value{num(5), text("wren"), num(9), null}
	for _, c := range []struct {
		s    string
		want api.Value
		err  api.Errno
	}{
		{"7", num(7), 0}, {"'x'", text("x"), 0}, {"x'00'", blob("\x00"), 0}, {"null", null, 0},
		{"a", num(5), 0}, {"b", text("wren"), 0}, {"n", null, 0}, {"c", null, api.ErrNone},
		{"- a", num(-5), 0}, {"a + 2", num(7), 0}, {"a - 7", num(-2), 0}, {"a * a", num(25), 0}, {"- a / 2", num(-2), 0}, {"- a % 2", num(-1), 0},
		{"a + b", null, api.ErrKind}, {"n + b", null, api.ErrKind}, {"b * n", null, api.ErrKind}, {"- b", null, api.ErrKind}, {"- n", null, 0}, {"a / n", null, 0}, {"n % 0", null, 0}, {"a / 0", null, api.ErrZero}, {"a % 0", null, api.ErrZero}, {"x'' - 1", null, api.ErrKind},
		{"9223372036854775807 + a", null, api.ErrOver}, {"- (- 9223372036854775807 - 1)", null, api.ErrOver}, {"9223372036854775807 * 2", null, api.ErrOver},
		{"a = 5", num(1), 0}, {"a <> 5", num(0), 0}, {"a < 5", num(0), 0}, {"a <= 5", num(1), 0}, {"a > 4", num(1), 0}, {"a >= 6", num(0), 0}, {"a < b", num(1), 0}, {"a = b", num(0), 0}, {"a = n", null, 0}, {"n <> n", null, 0}, {"n >= a", null, 0},
		{"n is null", num(1), 0}, {"a is null", num(0), 0}, {"n is not null", num(0), 0}, {"b is not null", num(1), 0},
		{"b like 'w%'", num(1), 0}, {"b not like 'w%'", num(0), 0}, {"b like n", null, 0}, {"n not like b", null, 0}, {"a like b", null, api.ErrKind}, {"n like 1", null, api.ErrKind}, {"x'61' like n", null, api.ErrKind}, {`b like '\'`, null, api.ErrForm}, {`b not like 'w\'`, null, api.ErrForm}, {`n like 'w\'`, null, 0},
		{"a in (1, 5)", num(1), 0}, {"a in (1, n)", null, 0}, {"a in (n, 5)", num(1), 0}, {"a not in (1, 2)", num(1), 0}, {"a not in (1, n)", null, 0}, {"n in (1)", null, 0},
		{"a between 1 and 5", num(1), 0}, {"a not between 1 and 4", num(1), 0}, {"a between 6 and n", num(0), 0}, {"a between n and 9", null, 0}, {"a not between n and 4", num(1), 0},
		{"a and n", null, 0}, {"0 and n", num(0), 0}, {"a or n", num(1), 0}, {"0 or n", null, 0}, {"not n", null, 0}, {"not a", num(0), 0}, {"not 0", num(1), 0}, {"a and - 1", num(1), 0}, {"b and 0", null, api.ErrKind}, {"1 or b", null, api.ErrKind}, {"not x''", null, api.ErrKind},
		{"0 and 1 / 0", null, api.ErrZero}, {"1 or c", null, api.ErrNone}, {"1 / 0 + c", null, api.ErrZero}, {"c + 1 / 0", null, api.ErrNone}, {"(b + 1) + 1 / 0", null, api.ErrKind}, {"1 / 0 + (b + 1)", null, api.ErrZero}, {"b + 1 / 0", null, api.ErrZero},
	} {
		if v, err := Eval(parsed(t, c.s), cols, row); v != c.want || err != c.err {
			t.Errorf("%s: %v, %d; want %v, %d", c.s, v, err, c.want, c.err)
		}
	}
}

// J3: the truth of values of each kind.
func TestTruth(t *testing.T) {
	for v, want := range map[api.Value]int{null: api.Unknown, num(0): api.False, num(1): api.True, num(-3): api.True, num(math.MinInt64): api.True} {
		if got, err := Truth(list(col("a")), []string{"a"}, []api.Value{v}); got != want || err != api.OK {
			t.Errorf("%v: %d, %d; want %d", v, got, err, want)
		}
	}
	for _, v := range []api.Value{text(""), text("1"), blob(""), blob("\x01")} {
		if got, err := Truth(list(col("a")), []string{"a"}, []api.Value{v}); got != 0 || err != api.ErrKind {
			t.Errorf("%v: %d, %d", v, got, err)
		}
	}
}

// wrongValues has values with one fault or several, and the error of each.
func wrongValues() map[api.Value]api.Errno {
	return map[api.Value]api.Errno{{Kind: 4}: api.ErrKind, {Kind: -1, N: 1, S: "a"}: api.ErrKind, {N: 1}: api.ErrForm, {S: "a"}: api.ErrForm, {Kind: api.Int, S: "a"}: api.ErrForm, {Kind: api.Text, N: 1, S: long(17)}: api.ErrForm, text(long(17)): api.ErrMany, blob(long(17)): api.ErrMany}
}

// J1: each error where its order has it: the expression, the columns, the values, then the nodes.
func TestErrors(t *testing.T) {
	a, bad := list(col("a")), list(lit(num(-1)))
	eight := []string{"a", "b", "c", "d", "e", "f", "g", "h"}
	row := make([]api.Value, 9)
	for _, c := range []struct {
		e    []api.Node
		cols []string
		row  []api.Value
		want api.Errno
	}{
		{nil, eight, row, api.ErrForm}, {bad, append(eight, "i"), row, api.ErrRange}, {bad, eight, row, api.ErrRange},
		{make([]api.Node, 61), nil, nil, api.ErrMany},
		{a, append(eight, "i"), row, api.ErrMany}, {a, append(eight, "i"), nil, api.ErrMany}, {a, append(eight, "i"), []api.Value{{Kind: 9}}, api.ErrMany},
		{a, eight, row[:8], api.OK}, {a, eight, row, api.ErrForm}, {a, eight, row[:7], api.ErrForm}, {a, nil, row[:1], api.ErrForm}, {a, eight[:1], nil, api.ErrForm}, {a, eight[:1], []api.Value{null, {Kind: 9}}, api.ErrForm}, {a, nil, make([]api.Value, 100), api.ErrForm},
		{a, nil, nil, api.ErrNone}, {a, []string{}, []api.Value{}, api.ErrNone}, {a, []string{"A", "", "a "}, row[:3], api.ErrNone}, {a, []string{"A", "", "a"}, row[:3], api.OK}, {a, []string{"\xff", "select", "a"}, row[:3], api.OK},
	} {
		if v, err := Eval(c.e, c.cols, c.row); v != null || err != c.want {
			t.Errorf("Eval(%v, %q, %v) = %v, %d; want %d", c.e, c.cols, c.row, v, err, c.want)
		}
		checkEval(t, c.e, c.cols, c.row)
	}
	for v, want := range wrongValues() {
		for _, row := range [][]api.Value{{v, null}, {num(1), v}} {
			for _, e := range [][]api.Node{a, list(col("b")), list(col("zz")), list(lit(num(1)))} {
				if got, err := Eval(e, []string{"a", "b"}, row); got != null || err != want {
					t.Errorf("%v: %v, %d; want %d", row, got, err, want)
				}
			}
		}
		if got := list(lit(v)); expr.Check(got) == api.OK {
			t.Errorf("%v is a literal", v)
		}
		for _, e := range [][]api.Node{list(lit(v)), list(lit(v), op(api.OpNot, 1)), bad} {
			want := expr.Check(e)
			if got, err := Fold(e); got != nil || err != want {
				t.Errorf("Fold(%v) = %v, %d; want %d", e, got, err, want)
			}
			if got, err := Push(e); got != nil || err != want {
				t.Errorf("Push(%v) = %v, %d; want %d", e, got, err, want)
			}
		}
	}
}

// drawnTree has at most so many nodes below one another; few leaves are columns.
func drawnTree(d *draw, sizes map[int][]int, depth int) tree {
	leaves := []api.Node{lit(null), lit(num(0)), lit(num(1)), lit(num(2)), lit(num(math.MaxInt64)), lit(text("ab")), lit(text("a%")), lit(blob("a")), lit(num(3)), lit(num(1)), col("a"), col("b"), col("c")}
	if depth == 1 || d.below(6) == 0 {
		return leaf(leaves[d.below(len(leaves))])
	}
	o := api.OpNeg + d.below(api.OpNotBetween-api.OpNeg+1)
	if d.below(3) == 0 {
		o = []int{api.OpNot, api.OpNot, api.OpAnd, api.OpOr}[d.below(4)]
	}
	t := tree{node: op(o, sizes[o][d.below(len(sizes[o]))])}
	for range t.node.Kids {
		t.kids = append(t.kids, drawnTree(d, sizes, depth-1))
	}
	return t
}

func drawnRow(d *draw) []api.Value {
	l := values()
	return []api.Value{l[d.below(len(l))], num(int64(d.below(5)) - 1), l[d.below(8)]}
}

func checkChanged(t *testing.T, e []api.Node) {
	t.Helper()
	got, err := Fold(e)
	if want, wantErr := modelFold(e); !slices.Equal(got, want) || err != wantErr || err != api.OK && got != nil {
		t.Fatalf("Fold(%v) = %v, %d; want %v, %d", e, got, err, want, wantErr)
	}
	got, err = Push(e)
	if want, wantErr := modelPush(e); !slices.Equal(got, want) || err != wantErr || err != api.OK && got != nil {
		t.Fatalf("Push(%v) = %v, %d; want %v, %d", e, got, err, want, wantErr)
	}
}

// J1 to J6: drawn expressions against the models; a folded one is worth what it was, a pushed one has the truth that it had.
func TestDrawn(t *testing.T) {
	d := draw(7)
	sizes := ops()
	cols := []string{"a", "b", "c"}
	rights := 0
	for range 30000 {
		e := drawnTree(&d, sizes, 1+d.below(6)).nodes()
		checkChanged(t, e)
		folded, err := Fold(e)
		pushed, pushErr := Push(e)
		for range 3 {
			row := drawnRow(&d)
			checkEval(t, e, cols, row)
			if err != api.OK {
				continue
			}
			v, err := Eval(e, cols, row)
			if w, again := Eval(folded, cols, row); v != w || err != again {
				t.Fatalf("%v is %v, %d; folded, %v, it is %v, %d", e, v, err, folded, w, again)
			}
			a, err := Truth(e, cols, row)
			b, again := Truth(pushed, cols, row)
			if pushErr == api.OK && (a != b || (err == api.OK) != (again == api.OK)) {
				t.Fatalf("%v: %d, %d; pushed, %v: %d, %d", e, a, err, pushed, b, again)
			}
			if err == api.OK {
				rights++
			}
		}
	}
	if rights < 10000 {
		t.Errorf("only %d had a truth", rights)
	}
}

func said(t *testing.T, e []api.Node) string {
	t.Helper()
	l, _ := expr.Tokens(e)
	s, err := lex.Print(l)
	if err != api.OK {
		t.Fatal(err)
	}
	return s
}

// J4: what becomes a literal and what does not.
func TestFold(t *testing.T) {
	for s, want := range map[string]string{
		"1": "1", "null": "null", "a": "a", "'x'": "'x'", "x'00'": "x'00'",
		"1 + 2": "3", "1 - 2": "1 - 2", "- 1": "- 1", "- - 1": "1", "- 0": "0", "3 - 5 + 4": "2", "3 - 5 + 1": "3 - 5 + 1", "(1 + 1) - (2 + 2)": "2 - 4", "- (1 + 1)": "- 2",
		"a + (1 + 2)": "a + 3", "a + 1 + 2": "a + 1 + 2", "1 + 2 + a": "3 + a", "a * 0": "a * 0", "a and 0": "a and 0", "a or 1 = 1": "a or 1", "0 and a": "0 and a", "a is null": "a is null",
		"1 / 0": "1 / 0", "1 / 0 + (1 + 1)": "1 / 0 + 2", "'x' + 1": "'x' + 1", "'x' + null": "'x' + null", "1 + null": "null", "null is null": "1", "1 in (1, a)": "1 in ( 1 , a )", "1 in (1 + 0, 2)": "1", "a in (1 + 0, 2, 2 - 3)": "a in ( 1 , 2 , 2 - 3 )",
		"'wren' like 'w%'": "1", "'a' not like 'a'": "0", `'a' like 'a\'`: `'a' like 'a\'`, "1 between 0 and a": "1 between 0 and a", "1 between 0 and 2 and a": "1 and a", "not 1": "0", "not a": "not a", "not 'x'": "not 'x'",
		"9223372036854775807 + 1": "9223372036854775807 + 1", "9223372036854775806 + 1": "9223372036854775807",
	} {
		e, err := Fold(parsed(t, s))
		if err != api.OK || said(t, e) != want {
			t.Errorf("%s: %s, %d; want %s", s, said(t, e), err, want)
		}
	}
}

// J5: each rule, where it goes on and where it does not.
func TestPush(t *testing.T) {
	for s, want := range map[string]string{
		"a": "a", "not a": "not a", "not 1": "not 1", "not - a": "not - a", "not a + 1": "not a + 1", "not not a": "a", "not not not a": "not a", "not not not not a": "a",
		"not (a and b)": "not a or not b", "not (a or b)": "not a and not b", "not (not a and b)": "a or not b", "not not (a and not not b)": "a and b", "a or not (a or b)": "a or not a and not b",
		"not a = b": "a <> b", "not a <> b": "a = b", "not a < b": "a >= b", "not a >= b": "a < b", "not a <= b": "a > b", "not a > b": "a <= b",
		"not a is null": "a is not null", "not a is not null": "a is null", "not a like b": "a not like b", "not a not like b": "a like b", "not a in (1, 2)": "a not in ( 1 , 2 )", "not a not in (1)": "a in ( 1 )", "not a between b and 1": "a not between b and 1", "not a not between b and 1": "a between b and 1",
		"not not a = b": "a = b", "not (a = b and not a)": "a <> b or a", "not (a and (b or not c))": "not a or not b and c",
		"not (not (a and b)) = 1": "(not (a and b)) <> 1", "(not not a) = 1": "( not not a ) = 1", "not - (not not a)": "not - ( not not a )", "a in (not a = b)": "a in ( not a = b )", "not a in (not a = b)": "a not in ( not a = b )", "(not a = b) is null or not a = b": "( not a = b ) is null or a <> b",
	} {
		e, err := Push(parsed(t, s))
		if err != api.OK {
			t.Errorf("%s: %d", s, err)
			continue
		}
		l, _ := expr.Tokens(e)
		w, _ := expr.Tokens(parsed(t, want))
		if !slices.Equal(l, w) {
			t.Errorf("%s: %s; want %s", s, said(t, e), want)
		}
	}
}

// balanced joins so many columns by ands, as flat as can be.
func balanced(n int) []api.Node {
	if n == 1 {
		return list(col("a"))
	}
	return slices.Concat(balanced(n/2), balanced(n-n/2), list(op(api.OpAnd, 2)))
}

// J4, J5: expressions at their limits, and what becomes too great.
func TestLimits(t *testing.T) {
	for _, c := range []struct {
		leaves, nodes int
		err           api.Errno
	}{{1, 2, 0}, {2, 5, 0}, {20, 59, 0}, {21, 0, api.ErrMany}, {29, 0, api.ErrMany}, {30, 0, api.ErrMany}} {
		e := append(balanced(c.leaves), op(api.OpNot, 1))
		if got, err := Push(e); len(got) != c.nodes || err != c.err {
			t.Errorf("%d leaves: %d nodes, %d; want %d, %d", c.leaves, len(got), err, c.nodes, c.err)
		}
		checkChanged(t, e)
	}
	// 19 leaves become Nots, and one of them is a - a: 60 nodes in all; with one more kid there are 61.
	sixty := slices.Concat(balanced(19), list(col("a"), op(api.OpNeg, 1), op(api.OpAnd, 2), op(api.OpNot, 1)))
	more := slices.Concat(balanced(19), list(col("a"), op(api.OpNeg, 1), op(api.OpNeg, 1), op(api.OpAnd, 2), op(api.OpNot, 1)))
	if got, err := Push(sixty); len(got) != 60 || err != api.OK {
		t.Errorf("%d nodes, %d", len(got), err)
	}
	if got, err := Push(more); got != nil || err != api.ErrMany {
		t.Errorf("%d nodes, %d", len(got), err)
	}
	deep := list(col("a"))
	for range 11 {
		deep = append(deep, op(api.OpNeg, 1))
	}
	for _, e := range [][]api.Node{deep, append(slices.Clone(deep), op(api.OpNot, 1)), balanced(30), append(balanced(30), op(api.OpNot, 1), op(api.OpNot, 1))} {
		checkChanged(t, e)
		checkEval(t, e, []string{"a"}, []api.Value{num(3)})
	}
}

// P2: what is handed in is only read, the room behind it too; what is answered is the caller's.
func TestOnlyRead(t *testing.T) {
	room := slices.Concat(parsed(t, "not (a = 1 and b in (1 + 1, 'x') or 2 - 1)"), list(op(99, 9), op(98, 8)))
	kept := slices.Clone(room)
	cols := []string{"a", "b", "c", "d"}
	row := []api.Value{num(1), text("x"), {Kind: 9}, {Kind: 8}}
	for size := range len(room) + 1 {
		for range 2 {
			Eval(room[:size], cols[:2], row[:2])
			Truth(room[:size], cols[:2], row[:2])
			folded, _ := Fold(room[:size])
			pushed, _ := Push(room[:size])
			for _, l := range [][]api.Node{folded, pushed} {
				l = l[:cap(l)]
				for i := range l {
					l[i] = op(77, 7)
				}
			}
		}
		if !slices.Equal(room, kept) {
			t.Fatalf("%d nodes: %v; it was %v", size, room, kept)
		}
	}
	if !slices.Equal(cols, []string{"a", "b", "c", "d"}) || !slices.Equal(row, []api.Value{num(1), text("x"), {Kind: 9}, {Kind: 8}}) {
		t.Errorf("%q, %v", cols, row)
	}
}

// P1, P3: whatever is handed in, and whoever asks at the same time.
func TestNothingIsKept(t *testing.T) {
	var hands sync.WaitGroup
	for seed := range 4 {
		hands.Go(func() {
			d := draw(50 + seed)
			sizes := ops()
			cols := []string{"a", "b", "c"}
			for range 1000 {
				e := drawnTree(&d, sizes, 1+d.below(5)).nodes()
				row := drawnRow(&d)
				v, err := Eval(e, cols, row)
				if want, wantErr := modelEval(e, cols, row); v != want || err != wantErr {
					t.Errorf("Eval(%v, %q, %v) = %v, %d; want %v, %d", e, cols, row, v, err, want, wantErr)
				}
				pushed, err := Push(e)
				if want, wantErr := modelPush(e); !slices.Equal(pushed, want) || err != wantErr {
					t.Errorf("Push(%v) = %v, %d; want %v, %d", e, pushed, err, want, wantErr)
				}
			}
		})
	}
	hands.Wait()
}
