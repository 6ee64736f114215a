package stmt

import (
	"fmt"
	"math"
	"reflect"
	"slices"
	"strings"
	"sync"
	"testing"

	"starling/api"
	"starling/lex"
)

// rightTexts has commands of each kind, as Tokens tells them.
func rightTexts() []string {
	return strings.Split(`create table t ( a )
create table t ( a , b integer not null , c text unique , d not null unique , e blob , f not null )
drop table t
insert into t values ( 1 )
insert into t values ( 1 , 'x' , null , x'00' , - 5 , 1 + 2 * 3 )
insert into t values ( a in ( 1 , 2 ) ) , ( ( a or b ) and c , ',' ) , ( ')' ) , ( 'from' )
select * from t
select distinct * from t where a
select a from t
select a , b + 1 , 'x' from t
select distinct a in ( 1 , 2 ) , ( a = b ) = c from t where not a limit 5
select count ( * ) from t
select count ( a ) , sum ( a ) , min ( a ) , max ( b ) , count ( * ) from t
select a , count ( * ) from t group by a
select a , b , a from t where a between 1 and 2 and b group by a , b , a order by 1 , 2 desc , 8 limit 3 offset 1
select * from t order by 1 desc
select * from t limit 0
select * from t limit 0 offset 5
select * from t where a is not null order by 2 limit 9223372036854775807 offset 9223372036854775807
update t set a = 1
update t set a = a + 1 , b = c = d where a in ( 1 , 2 ) and not b is null
delete from t
delete from t where a = 1 or b
begin
commit
rollback`, "\n")
}

// R1, R3, R4: each kind of command is read, and told as it stood.
func TestTexts(t *testing.T) {
	kinds := map[int]int{}
	for _, x := range rightTexts() {
		s, err := Read(x)
		if err != api.OK {
			t.Fatalf("%s: %d", x, err)
		}
		kinds[s.Kind]++
		l, err := Tokens(s)
		if p, printErr := lex.Print(l); p != x || err != api.OK || printErr != api.OK {
			t.Errorf("%s is told as %s, %d, %d", x, p, err, printErr)
		}
		hold(t, s)
		holdTokens(t, lexed(x))
		for _, y := range []string{x + ";", strings.ToUpper(x), "-- a\n" + strings.ReplaceAll(x, " ", "\n\t") + " ;--;"} {
			if strings.Contains(x, "'") && y != x+";" {
				continue
			}
			if again, err := Read(y); err != api.OK || !same(again, s) {
				t.Errorf("%s: %v, %d; want %v", y, again, err, s)
			}
		}
		for _, y := range []string{x + " ; ;", "; " + x, x + " x", x + " ; x", x + " )", x + " ,", "( " + x + " )", x + " ; " + x} {
			if err := holdTokens(t, lexed(y)); err != api.ErrForm {
				t.Errorf("%s: %d", y, err)
			}
		}
	}
	if len(kinds) != 9 {
		t.Errorf("kinds: %v", kinds)
	}
}

// R1: what the parts of a command become.
func TestFields(t *testing.T) {
	a, one := exprOf("a"), exprOf("1")
	for _, c := range []struct {
		s    string
		want api.Stmt
	}{
		{"create table t (a, b integer, c text not null, d blob unique, e any not null unique)", api.Stmt{Kind: 1, Table: "t", Cols: []api.Column{{Name: "a"}, {Name: "b", Kind: 1}, {Name: "c", Kind: 2, NotNull: true}, {Name: "d", Kind: 3, Unique: true}, {Name: "e", NotNull: true, Unique: true}}}},
		{"drop table birds;", api.Stmt{Kind: 2, Table: "birds"}},
		{"insert into t values (1, a), ((1))", api.Stmt{Kind: 3, Table: "t", Rows: [][]nodes{{one, a}, {one}}}},
		{"select * from t", api.Stmt{Kind: 4, Table: "t"}},
		{"select distinct ((a)), 1 from t where (1) order by 1 asc, 8 desc, 2 limit 7 offset 3", api.Stmt{Kind: 4, Table: "t", Distinct: true, Items: []api.Item{{E: a}, {E: one}}, Where: one, Order: []api.Key{{}, {Col: 7, Desc: true}, {Col: 1}}, Lim: true, Skip: 3, Most: 7}},
		{"select a, count(*), count(a), sum(a), min(a), max(a) from t group by a limit 0 offset 0", api.Stmt{Kind: 4, Table: "t", Items: []api.Item{{E: a}, {Agg: 1}, {Agg: 1, E: a}, {Agg: 2, E: a}, {Agg: 3, E: a}, {Agg: 4, E: a}}, By: []string{"a"}, Lim: true}},
		{"update t set a = 1, b = a where a", api.Stmt{Kind: 5, Table: "t", Sets: []api.Assign{{Name: "a", E: one}, {Name: "b", E: a}}, Where: a}},
		{"delete from t where 1", api.Stmt{Kind: 6, Table: "t", Where: one}},
		{"begin", api.Stmt{Kind: 7}}, {"commit;", api.Stmt{Kind: 8}}, {"rollback", api.Stmt{Kind: 9}},
	} {
		if got, err := Read(c.s); err != api.OK || !same(got, c.want) {
			t.Errorf("%s: %v, %d; want %v", c.s, got, err, c.want)
		}
		hold(t, c.want)
	}
}

// R1: texts that are no command, each nearly one.
func TestNoCommand(t *testing.T) {
	for _, s := range strings.Split(`|;|;;|a|1|'begin'|( begin )|create|table t ( a )|create table|create table t|create table t a|create table t ( )|create table t ( a|create table t ( a ) )|create table t ( ( a ) )|create table t ( a , )|create table t ( , a )|create table t ( a b )|create table t ( a a )|create table t ( a unique not null )|create table t ( a not null integer )|create table t ( a not )|create table t ( a null )|create table t ( a not null not null )|create table t ( a unique unique )|create table t ( a integer text )|create table t ( a any any )|create table t ( integer )|create table t ( 'a' )|create table t ( 1 )|create table select ( a )|create table 't' ( a )|create t ( a )|create table t ( a ) , ( b )|create table t , u ( a )|create table t ( a ; )
drop|drop table|drop t|drop table t u|drop table t , u|drop table table|drop table 1|drop table ( t )
insert|insert into|insert into t|insert into t values|insert into t values 1|insert into t values ( )|insert into t values ( 1|insert into t values ( 1 , )|insert into t values ( , 1 )|insert into t values ( 1 2 )|insert into t values ( 1 ) ( 2 )|insert into t values ( 1 ) ,|insert into t values , ( 1 )|insert into t values ( 1 ) , 2|insert into t values ( ( 1 , 2 ) )|insert into t values ( ( 1 ) , ( 2 )|insert into t values ( * )|insert into t values ( count ( a ) )|insert into t values ( 1 ) where a|insert t values ( 1 )|insert into values ( 1 )|insert into t ( 1 )|insert into t values ( 1 ; 2 )|insert into t values ( from )|insert into t values ( a where b )|insert into t values ( ( a ) ) )
select|select *|select from t|select * from|select * t|select a|select a b from t|select a , from t|select , a from t|select * , a from t|select a , * from t|select * * from t|select ( * ) from t|select a from t , u|select a from ( t )|select distinct from t|select distinct distinct a from t|select a distinct from t|select a from t distinct|select a from 't'|select a from t u|select a as b from t
select sum ( * ) from t|select max ( * ) from t|select count ( ) from t|select count from t|select count a from t|select count ( a from t|select count ( a , b ) from t|select count ( ( a ) ) from t|select sum ( a + 1 ) from t|select sum ( 1 ) from t|select sum ( null ) from t|select count ( distinct a ) from t|select count ( * ) + 1 from t|select 1 + count ( * ) from t|select ( count ( * ) ) from t|select count ( a ) b from t|select count ( * * ) from t|select not count ( a ) from t|select count ( 'a' ) from t
select a from t where|select a from t where a , b|select a from t where a where b|select a from t where ( b|select a from t where b )|select a from t where ( from )|select a from t where count ( * ) > 1|select a from t where order by 1|select a from t where a b|select a from t where a ; order by 1
select a from t group|select a from t group by|select a from t group a|select a from t group by a b|select a from t group by a ,|select a from t group by 1|select a from t group by ( a )|select a from t group by a group by a|select a from t group by a where a|select a from t order by 1 group by a|select a from t group by from
select * from t order|select * from t order by|select * from t order 1|select * from t order by a|select * from t order by 1 2|select * from t order by 1 ,|select * from t order by 1 asc desc|select * from t order by 1 desc asc|select * from t order by asc 1|select * from t order by - 1|select * from t order by '1'|select * from t order by 1 + 1|select * from t order by 1 where a|select * from t order by 1 order by 1|select * from t order by ( 1 )|select * from t order by asc
select * from t limit|select * from t limit a|select * from t limit - 1|select * from t limit 1 2|select * from t limit 1 , 2|select * from t limit 1 offset|select * from t limit 1 offset a|select * from t limit 1 offset 1 offset 1|select * from t limit 1 limit 1|select * from t offset 1|select * from t offset 1 limit 1|select * from t limit offset 1|select * from t limit 1 order by 1|select * from t limit 1 where a|select * from t limit 1 group by a|select * from t limit '1'|select * from t limit ( 1 )
update|update t|update t set|update t set a|update t set a =|update t set a = 1 ,|update t set , a = 1|update t set a = 1 b = 2|update t set 1 = a|update t set ( a ) = 1|update t set ( a = 1 )|update t set a <> 1|update t set where a|update t set a = 1 where|update t where a|update set a = 1|update t , u set a = 1|update t set a = 1 , where a|update t set a = 1 order by 1|update t set a = 1 from t|update t set a = b = c = d|update t set a = 1 where a where b|update table set a = 1|update t set set = 1
delete|delete t|delete from|delete from t u|delete from t , u|delete from t where|delete from t where a , b|delete * from t|delete from t where a order by 1|delete from t limit 1|delete from where a|delete from ( t )
begin t|begin begin|commit t|commit commit|rollback t|begin commit|begin ( )|rollback 1|begin 'x'`, "|") {
		for _, one := range strings.Split(s, "\n") {
			got, err := Read(one)
			if err != api.ErrForm || !isZero(got) {
				t.Errorf("%s: %v, %d", one, got, err)
			}
			if err := holdTokens(t, lexed(one)); err != api.ErrForm {
				t.Errorf("%s: %d", one, err)
			}
		}
	}
}

// repeated tells so many of something, with , between.
func repeated(s string, n int) string {
	return strings.Join(slices.Repeat([]string{s}, n), " , ")
}

// numbered tells so many of something with a number in it, with , between.
func numbered(form string, n int) string {
	var l []string
	for i := range n {
		l = append(l, fmt.Sprintf(form, i))
	}
	return strings.Join(l, " , ")
}

func nots(n int) string { return strings.Repeat("not ", n) + "a" }

// R2, R3: what is a command by its form, but has an error, each where the order of errors has it; and limits.
func TestReadErrors(t *testing.T) {
	deep, in7, wide := nots(12), "a in ( "+repeated("1", 7)+" )", nots(60)
	for _, c := range []struct {
		s    string
		want api.Errno
	}{
		{"create table t ( " + numbered("c%d", 6) + " )", 0}, {"create table t ( " + numbered("c%d", 7) + " )", api.ErrMany}, {"create table t ( a , a )", api.ErrTwice}, {"create table t ( " + repeated("a", 7) + " )", api.ErrMany}, {"create table t ( t )", 0},
		{"insert into t values " + repeated("( 1 )", 4), 0}, {"insert into t values " + repeated("( 1 )", 5), api.ErrMany}, {"insert into t values ( " + repeated("1", 6) + " )", 0}, {"insert into t values ( " + repeated("1", 7) + " )", api.ErrMany},
		{"insert into t values ( " + nots(11) + " )", 0}, {"insert into t values ( " + deep + " )", api.ErrDeep}, {"insert into t values ( " + in7 + " )", api.ErrForm}, {"insert into t values ( " + wide + " )", api.ErrMany}, {"insert into t values ( " + deep + " ) x", api.ErrForm}, {"insert into t values ( " + deep + " ) , ( 1", api.ErrForm}, {"insert into t values ( " + deep + " , 1 2 )", api.ErrForm}, {"insert into t values ( " + wide + " ) ;;", api.ErrForm},
		{"insert into t values ( " + deep + " ) , " + repeated("( 1 )", 4), api.ErrMany}, {"insert into t values ( " + in7 + " ) , " + repeated("( 1 )", 4), api.ErrMany}, {"insert into t values ( " + deep + " , " + repeated("1", 6) + " )", api.ErrMany}, {"insert into t values ( " + deep + " ) , ( " + repeated("1", 7) + " )", api.ErrDeep}, {"insert into t values ( 1 , " + deep + " , " + in7 + " )", api.ErrDeep}, {"insert into t values ( 1 , " + in7 + " , " + deep + " )", api.ErrForm},
		{"update t set " + numbered("c%d = 1", 6), 0}, {"update t set " + numbered("c%d = 1", 7), api.ErrMany}, {"update t set " + repeated("a = 1", 7), api.ErrMany}, {"update t set a = 1 , a = 2", api.ErrTwice}, {"update t set a = " + deep + " , a = 2", api.ErrDeep}, {"update t set a = 1 , a = " + deep, api.ErrTwice}, {"update t set a = " + deep + " where " + in7, api.ErrDeep}, {"update t set a = 1 , a = 2 where " + deep, api.ErrTwice}, {"update t set a = 1 where " + deep, api.ErrDeep}, {"update t set a = 1 where " + in7, api.ErrForm}, {"update t set a = " + deep + " where", api.ErrForm},
		{"delete from t where " + nots(11), 0}, {"delete from t where " + deep, api.ErrDeep}, {"delete from t where " + wide, api.ErrMany}, {"delete from t where " + in7, api.ErrForm}, {"delete from t where " + deep + " limit", api.ErrForm},
		{"select " + repeated("a", 8) + " from t", 0}, {"select " + repeated("a", 9) + " from t", api.ErrMany}, {"select " + repeated("a", 9) + " from t where " + in7, api.ErrMany}, {"select " + repeated(in7, 9) + " from t", api.ErrMany}, {"select " + deep + " , " + repeated("a", 8) + " from t", api.ErrMany}, {"select " + deep + " from t where " + in7, api.ErrDeep}, {"select " + in7 + " from t where " + deep, api.ErrForm}, {"select a from t where " + deep, api.ErrDeep}, {"select a from t where " + deep + " order by 0", api.ErrRange}, {"select a from t where " + deep + " order by a", api.ErrForm},
		{"select " + repeated("a", 8) + " from t group by " + repeated("a", 8), 0}, {"select a from t group by " + repeated("a", 9), api.ErrMany}, {"select * from t group by " + repeated("a", 9), api.ErrMany}, {"select " + deep + " from t group by " + repeated("a", 9), api.ErrDeep}, {"select a , count ( * ) from t group by b , " + repeated("a", 8), api.ErrMany},
		{"select a from t group by a", 0}, {"select b from t group by a", api.ErrForm}, {"select * from t group by a", api.ErrForm}, {"select a , b from t group by a", api.ErrForm}, {"select a from t group by a , b", api.ErrForm}, {"select b , a from t group by a , b", api.ErrForm}, {"select a + 1 from t group by a", api.ErrForm}, {"select 'a' from t group by a", api.ErrForm}, {"select ( a ) from t group by a", 0}, {"select a , a from t group by a , a", 0}, {"select count ( * ) from t group by a", api.ErrForm}, {"select count ( a ) from t group by a", api.ErrForm}, {"select count ( * ) , a from t group by a", api.ErrForm}, {"select a , count ( * ) from t", api.ErrForm}, {"select count ( * ) , a from t", api.ErrForm}, {"select a , sum ( b ) , b from t group by a", api.ErrForm}, {"select a , sum ( b ) , min ( a ) from t group by a", 0}, {"select a , b , sum ( b ) from t group by a", api.ErrForm}, {"select b from t group by a order by 0", api.ErrForm}, {"select b from t group by a order by " + repeated("1", 9), api.ErrForm},
		{"select * from t order by " + repeated("1", 8), 0}, {"select * from t order by " + repeated("1", 9), api.ErrMany}, {"select * from t order by " + repeated("0", 9), api.ErrMany}, {"select * from t order by 0", api.ErrRange}, {"select * from t order by 1 , 9", api.ErrRange}, {"select * from t order by 8 desc", 0}, {"select * from t order by 9223372036854775807", api.ErrRange},
		{"select * from t limit 9223372036854775807 offset 9223372036854775807", 0},
		{"select sum ( * ) , " + repeated("a", 8) + " from t", api.ErrForm}, {"select sum ( 1 ) , " + repeated("a", 8) + " from t", api.ErrForm}, {"select null , " + repeated("a", 8) + " from t", api.ErrMany}, {"select any , " + repeated("a", 8) + " from t", api.ErrForm}, {"select a from t group by any , " + repeated("a", 8), api.ErrForm}, {"update t set any = 1 , " + numbered("c%d = 1", 6), api.ErrForm}, {"create table t ( any , " + numbered("c%d", 6) + " )", api.ErrForm}, {"insert into any values " + repeated("( 1 )", 5), api.ErrForm},
	} {
		if err := holdTokens(t, lexed(c.s)); err != c.want {
			t.Errorf("%s: %d; want %d", c.s, err, c.want)
		}
	}
}

// R3: texts that have no tokens, whatever else is wrong with them.
func TestLexErrors(t *testing.T) {
	for s, want := range map[string]api.Errno{
		"begin " + strings.Repeat(" ", 294): api.OK, "begin " + strings.Repeat(" ", 295): api.ErrMany, "nothing " + strings.Repeat(" ", 295): api.ErrMany,
		strings.Repeat(";", 120): api.ErrForm, strings.Repeat(";", 121): api.ErrMany,
		"begin !": api.ErrForm, "select 'a": api.ErrForm, "select x'0' from t": api.ErrForm, "select 01 from t": api.ErrForm, "select 9a from t": api.ErrForm,
		"drop table abcdefghijklm": api.ErrMany, "drop drop abcdefghijklm": api.ErrMany, "drop table abcdefghijkl": api.OK,
		"select 9223372036854775807 from t": api.OK, "select 9223372036854775808 from t": api.ErrOver, "x 9223372036854775808": api.ErrOver, "select * from t limit 9223372036854775808": api.ErrOver,
		"select '" + long(16) + "' from t": api.OK, "select '" + long(17) + "' from t": api.ErrMany, "'" + long(17) + "' x": api.ErrMany,
		"": api.ErrForm, " ": api.ErrForm, "-- begin": api.ErrForm, "-- x\nbegin": api.OK, "\x00": api.ErrForm, "\xff begin": api.ErrForm,
	} {
		if got, err := Read(s); err != want || err != api.OK && !isZero(got) {
			t.Errorf("%q: %v, %d; want %d", s, got, err, want)
		}
	}
}

// wrongTokens has what Print does not tell, with its error.
func wrongTokens() map[api.Token]api.Errno {
	return map[api.Token]api.Errno{
		{}: api.ErrKind, {Kind: 6}: api.ErrKind, {Kind: -1, N: 1, S: "a"}: api.ErrKind,
		{Kind: api.Word, N: 1, S: "a"}: api.ErrForm, {Kind: api.Word}: api.ErrForm, {Kind: api.Word, S: "A"}: api.ErrForm, {Kind: api.Word, S: long(13)}: api.ErrMany, {Kind: api.Word, S: ","}: api.ErrForm,
		{Kind: api.Number, S: "1"}: api.ErrForm, {Kind: api.Number, N: -1}: api.ErrRange,
		{Kind: api.Quote, N: 1}: api.ErrForm, {Kind: api.Quote, S: long(17)}: api.ErrMany,
		{Kind: api.Bytes, N: 1}: api.ErrForm, {Kind: api.Bytes, S: long(17)}: api.ErrMany,
		{Kind: api.Sign, S: "=="}: api.ErrForm, {Kind: api.Sign, N: 1, S: "="}: api.ErrForm, {Kind: api.Sign}: api.ErrForm, {Kind: api.Sign, S: "begin"}: api.ErrForm,
	}
}

// R3: errors of tokens come first, too many ones ahead of wrong ones.
func TestTokenErrors(t *testing.T) {
	for wrong, want := range wrongTokens() {
		for _, x := range append(rightTexts(), "no command", "insert into t values ( "+nots(12)+" )") {
			l := lexed(x)
			for _, at := range []int{0, len(l) / 2, len(l)} {
				if got, err := Parse(slices.Insert(slices.Clone(l), at, wrong)); err != want || !isZero(got) {
					t.Errorf("%s with %v: %v, %d; want %d", x, wrong, got, err, want)
				}
			}
		}
		l := append(lexed("begin"), slices.Repeat(lexed(";"), 118)...)
		if _, err := Parse(append(l, wrong)); err != want {
			t.Errorf("120 tokens with %v: %d; want %d", wrong, err, want)
		}
		if _, err := Parse(append(l, wrong, wrong)); err != api.ErrMany {
			t.Errorf("121 tokens with %v: %d", wrong, err)
		}
		for other, first := range wrongTokens() {
			if _, err := Parse(tokens{other, wrong}); err != first {
				t.Errorf("%v, %v: %d; want %d", other, wrong, err, first)
			}
		}
	}
}

// R1: a text or a blob is no word and no sign, whatever stands in it; where a token stood is not looked at, nor told.
func TestTokensApart(t *testing.T) {
	for _, x := range rightTexts() {
		l := lexed(x)
		for i, token := range l {
			if token.Kind != api.Word && token.Kind != api.Sign || len(token.S) > 16 {
				continue
			}
			for _, kind := range []int{api.Quote, api.Bytes} {
				other := slices.Clone(l)
				other[i].Kind = kind
				holdTokens(t, other)
			}
		}
		want, err := Parse(l)
		for i := range l {
			l[i].At = []int{-1, 7, math.MaxInt, math.MinInt}[i%4]
		}
		if got, again := Parse(l); again != err || !same(got, want) {
			t.Errorf("%s: %v, %d", x, got, again)
		}
		back, _ := Tokens(want)
		if slices.ContainsFunc(back, func(t api.Token) bool { return t.At != 0 }) {
			t.Errorf("%s: %v", x, back)
		}
	}
}

// alphabet has a token of each sort.
func alphabet() tokens {
	return append(lexed("a t 1 0 9 'x' x'00' ( ) , ; * + - = < in is like between or and not null"), lexed(strings.Join(reserved(), " "))...)
}

// R1, R3, P1: each command with each token left out, twice there, in another place, and with each other token in its stead or ahead of it.
func TestNearly(t *testing.T) {
	some := alphabet()
	for _, x := range rightTexts() {
		l := lexed(x)
		for i := range l {
			holdTokens(t, slices.Delete(slices.Clone(l), i, i+1))
			holdTokens(t, slices.Insert(slices.Clone(l), i, l[i]))
			holdTokens(t, l[:i])
			holdTokens(t, l[i:])
			if i > 0 {
				other := slices.Clone(l)
				other[i], other[i-1] = other[i-1], other[i]
				holdTokens(t, other)
			}
			for _, token := range some {
				holdTokens(t, slices.Insert(slices.Clone(l), i, token))
				other := slices.Clone(l)
				other[i] = token
				holdTokens(t, other)
			}
		}
		for _, token := range some {
			holdTokens(t, append(slices.Clone(l), token))
		}
	}
}

// R1 to R4, P1: drawn commands are told as the model tells them and read as they were, also with more brackets and words than are needed; and what something was done to is what the document says.
func TestDrawnTokens(t *testing.T) {
	d := draw(1)
	some := alphabet()
	told, read := map[api.Errno]int{}, map[api.Errno]int{}
	kinds := map[int]int{}
	for range 12000 {
		s := drawnStmt(&d)
		if err := Check(s); err != api.OK {
			t.Fatalf("%v: %d", s, err)
		}
		_, err := hold(t, s)
		told[err]++
		kinds[s.Kind]++
		more := modelTokens(s, func() int { return d.below(6) / 4 })
		back, backErr := Parse(more)
		switch {
		case len(more) > 120 && backErr != api.ErrMany:
			t.Fatalf("%d tokens: %d", len(more), backErr)
		case len(more) <= 120 && (backErr != api.OK || !same(back, s)):
			t.Fatalf("%v is read as %v, %d; want %v", more, back, backErr, s)
		}
		l, _ := Tokens(s)
		for range d.below(4) {
			if len(l) == 0 {
				break
			}
			i, j := d.below(len(l)), d.below(len(l))
			switch d.below(6) {
			case 0:
				l = slices.Delete(l, i, i+1)
			case 1:
				l = slices.Insert(l, i, some[d.below(len(some))])
			case 2:
				l[i] = some[d.below(len(some))]
			case 3:
				l[i], l[j] = l[j], l[i]
			case 4:
				l = slices.Insert(l, i, slices.Clone(l[min(i, j):max(i, j)])...)
			case 5:
				for i := range l {
					if l[i].Kind == api.Number {
						l[i].N = int64(d.below(10))
					}
				}
			}
			read[holdTokens(t, l)]++
		}
	}
	for _, err := range []api.Errno{api.OK, api.ErrMany} {
		if told[err] < 40 {
			t.Errorf("%d: drawn too few: %d", err, told[err])
		}
	}
	for _, err := range []api.Errno{api.OK, api.ErrForm, api.ErrMany, api.ErrTwice, api.ErrRange} {
		if read[err] < 10 {
			t.Errorf("%d: read too few: %d", err, read[err])
		}
	}
	for kind := api.Create; kind <= api.Rollback; kind++ {
		if kinds[kind] < 500 {
			t.Errorf("kind %d: drawn too few: %d", kind, kinds[kind])
		}
	}
}

// R3: as many tokens as may be and one more, told and read; a ; at the end counts when it is read.
func TestManyTokens(t *testing.T) {
	// A - takes one token; the row with its brackets and , the others.
	inserted := func(minuses int) api.Stmt {
		s := api.Stmt{Kind: api.Insert, Table: "t"}
		for range 4 {
			var row []nodes
			for range 6 {
				n := min(minuses, 10)
				minuses -= n
				row = append(row, exprOf(strings.Repeat("- ", n)+"a"))
			}
			s.Rows = append(s.Rows, row)
		}
		return s
	}
	for _, c := range []struct {
		minuses, size int
		want          api.Errno
	}{{0, 59, 0}, {60, 119, 0}, {61, 120, 0}, {62, 0, api.ErrMany}, {240, 0, api.ErrMany}} {
		s := inserted(c.minuses)
		l, err := Tokens(s)
		if len(l) != c.size || err != c.want {
			t.Errorf("%d: %d tokens, %d; want %d, %d", c.minuses, len(l), err, c.size, c.want)
		}
		hold(t, s)
		if err == api.OK {
			got, err := Parse(append(l, lexed(";")...))
			if want := map[bool]api.Errno{true: api.ErrMany}[c.size == 120]; err != want || err == api.OK && !same(got, s) {
				t.Errorf("%d tokens and a ;: %v, %d; want %d", c.size, got, err, want)
			}
		}
	}
	// An expression that has too many tokens by itself.
	nulls := exprOf(strings.Repeat("( ", 7) + "a is null" + strings.Repeat(" ) is null", 7))
	and := nodes{{Op: api.OpAnd, Kids: 2}}
	s := api.Stmt{Kind: api.Delete, Table: "t", Where: slices.Concat(nulls, nulls, and, nulls, and)}
	if l, err := Tokens(s); len(l) != 99 || err != api.OK {
		t.Errorf("%d tokens, %d", len(l), err)
	}
	hold(t, s)
	s.Where = slices.Concat(s.Where, nulls, and)
	if checked, told := hold(t, s); checked != api.OK || told != api.ErrMany {
		t.Errorf("%d, %d", checked, told)
	}
}

// each answers a command with just one field that is not zero.
func each() map[string]api.Stmt {
	return map[string]api.Stmt{
		"Table": {Table: "t"}, "Cols": {Cols: []api.Column{{Name: "a"}}}, "Rows": {Rows: [][]nodes{{exprOf("1")}}}, "Items": {Items: []api.Item{{E: exprOf("1")}}}, "Sets": {Sets: []api.Assign{{Name: "a", E: exprOf("1")}}}, "Where": {Where: exprOf("1")}, "By": {By: []string{"a"}}, "Order": {Order: []api.Key{{}}}, "Distinct": {Distinct: true}, "Lim": {Lim: true}, "Skip": {Skip: 1}, "Most": {Most: -1},
	}
}

// with answers a command that has the fields of another one too.
func with(s api.Stmt, names ...string) api.Stmt {
	v := reflect.ValueOf(&s).Elem()
	for _, name := range names {
		v.FieldByName(name).Set(reflect.ValueOf(each()[name]).FieldByName(name))
	}
	return s
}

// R2: kinds that there are not, fields that a kind has not, and tables that have no name.
func TestCheckFields(t *testing.T) {
	for _, kind := range []int{0, -1, 10, 100, math.MaxInt, math.MinInt} {
		for name := range each() {
			if err, _ := hold(t, with(api.Stmt{Kind: kind}, name)); err != api.ErrKind {
				t.Errorf("kind %d with %s: %d", kind, name, err)
			}
		}
	}
	needs := map[int][]string{api.Create: {"Table", "Cols"}, api.Drop: {"Table"}, api.Insert: {"Table", "Rows"}, api.Select: {"Table"}, api.Update: {"Table", "Sets"}, api.Delete: {"Table"}}
	for kind, has := range fields() {
		right := with(api.Stmt{Kind: kind}, needs[kind]...)
		if err, _ := hold(t, right); err != api.OK {
			t.Errorf("%v: %d", right, err)
		}
		for name := range each() {
			s := with(right, name)
			if err, _ := hold(t, s); !slices.Contains(has, name) && err != api.ErrForm {
				t.Errorf("kind %d with %s: %d", kind, name, err)
			}
			s.Table = "Wrong"
			if err, _ := hold(t, s); err != api.ErrForm {
				t.Errorf("kind %d with %s: %d", kind, name, err)
			}
		}
		empty := right
		for _, f := range []any{&empty.Cols, &empty.Rows, &empty.Items, &empty.Sets, &empty.Where, &empty.By, &empty.Order} {
			v := reflect.ValueOf(f).Elem()
			if v.Len() == 0 {
				v.Set(reflect.MakeSlice(v.Type(), 0, 1))
			}
		}
		if err, _ := hold(t, empty); err != api.OK {
			t.Errorf("%v: %d", empty, err)
		}
		for _, table := range append(reserved(), "", "T", "a b", "9", long(13), "'t'", ",", "\xff") {
			s := right
			s.Table = table
			if err, _ := hold(t, s); err != api.ErrForm && (table != "" || len(has) > 0) {
				t.Errorf("kind %d, table %q: %d", kind, table, err)
			}
		}
	}
}

// R2: each error of each kind, and of two the one that comes first.
func TestCheck(t *testing.T) {
	a, one := exprOf("a"), exprOf("1")
	wrong, deep := nodes{{}}, append(exprOf(nots(11)), api.Node{Op: api.OpNot, Kids: 1})
	col := func(name string, kind int) api.Column { return api.Column{Name: name, Kind: kind} }
	create := func(l ...api.Column) api.Stmt { return api.Stmt{Kind: api.Create, Table: "t", Cols: l} }
	insert := func(l ...[]nodes) api.Stmt { return api.Stmt{Kind: api.Insert, Table: "t", Rows: l} }
	update := func(l ...api.Assign) api.Stmt { return api.Stmt{Kind: api.Update, Table: "t", Sets: l} }
	choose := func(l ...api.Item) api.Stmt { return api.Stmt{Kind: api.Select, Table: "t", Items: l} }
	by := func(s api.Stmt, l ...string) api.Stmt { s.By = l; return s }
	order := func(s api.Stmt, l ...api.Key) api.Stmt { s.Order = l; return s }
	where := func(s api.Stmt, e nodes) api.Stmt { s.Where = e; return s }
	limit := func(s api.Stmt, lim bool, skip, most int) api.Stmt { s.Lim, s.Skip, s.Most = lim, skip, most; return s }
	item := func(agg int, e nodes) api.Item { return api.Item{Agg: agg, E: e} }
	for i, c := range []struct {
		s    api.Stmt
		want api.Errno
	}{
		{create(), api.ErrForm}, {create(make([]api.Column, 7)...), api.ErrMany}, {create(make([]api.Column, 6)...), api.ErrForm}, {create(col("A", 9)), api.ErrForm}, {create(col("a", 4)), api.ErrKind}, {create(col("a", -1)), api.ErrKind}, {create(col("a", 3)), 0}, {create(col("a", 1), col("a", 4)), api.ErrKind}, {create(col("a", 1), col("a", 2)), api.ErrTwice}, {create(col("a", 4), col("A", 1)), api.ErrKind}, {create(col(long(12), 0)), 0}, {create(col(long(13), 0)), api.ErrForm},
		{insert(), api.ErrForm}, {insert(make([][]nodes, 5)...), api.ErrMany}, {insert(make([][]nodes, 4)...), api.ErrForm}, {insert([]nodes{}), api.ErrForm}, {insert(make([]nodes, 7)), api.ErrMany}, {insert(make([]nodes, 6)), api.ErrForm}, {insert([]nodes{one}, nil), api.ErrForm}, {insert([]nodes{wrong}, nil), api.ErrKind}, {insert([]nodes{one, deep}, make([]nodes, 7)), api.ErrDeep}, {insert([]nodes{one}, make([]nodes, 7), []nodes{deep}), api.ErrMany}, {insert(slices.Repeat([]nodes{one}, 6), slices.Repeat([]nodes{one}, 6), slices.Repeat([]nodes{one}, 6), slices.Repeat([]nodes{one}, 6)), 0}, {insert([]nodes{wrong, deep}), api.ErrKind}, {insert([]nodes{deep, wrong}), api.ErrDeep},
		{update(), api.ErrForm}, {update(make([]api.Assign, 7)...), api.ErrMany}, {update(make([]api.Assign, 6)...), api.ErrForm}, {update(api.Assign{Name: "A", E: wrong}), api.ErrForm}, {update(api.Assign{Name: "a", E: wrong}), api.ErrKind}, {update(api.Assign{Name: "a"}), api.ErrForm}, {update(api.Assign{Name: "a", E: one}, api.Assign{Name: "a", E: wrong}), api.ErrTwice}, {update(api.Assign{Name: "a", E: wrong}, api.Assign{Name: "a", E: one}), api.ErrKind}, {where(update(), wrong), api.ErrForm}, {where(update(api.Assign{Name: "a", E: deep}), wrong), api.ErrDeep}, {where(update(api.Assign{Name: "a", E: one}), wrong), api.ErrKind}, {where(update(api.Assign{Name: "a", E: one}), nodes{}), 0},
		{choose(), 0}, {choose(make([]api.Item, 9)...), api.ErrMany}, {choose(make([]api.Item, 8)...), api.ErrForm}, {choose(slices.Repeat([]api.Item{{E: one}}, 8)...), 0}, {choose(item(-1, one)), api.ErrKind}, {choose(item(5, one)), api.ErrKind}, {choose(item(math.MaxInt, nil)), api.ErrKind}, {choose(item(0, nil)), api.ErrForm}, {choose(item(0, deep)), api.ErrDeep},
		{choose(item(1, nil)), 0}, {choose(item(1, nodes{})), 0}, {choose(item(2, nil)), api.ErrForm}, {choose(item(3, nodes{})), api.ErrForm}, {choose(item(4, nil)), api.ErrForm}, {choose(item(4, a)), 0}, {choose(item(1, one)), api.ErrForm}, {choose(item(2, exprOf("a + 1"))), api.ErrForm}, {choose(item(2, exprOf("- a"))), api.ErrForm}, {choose(item(2, deep)), api.ErrForm}, {choose(item(2, wrong)), api.ErrForm}, {choose(item(2, nodes{{Op: api.OpCol, Name: "A"}})), api.ErrForm}, {choose(item(2, nodes{{Op: api.OpCol, Name: "a", Kids: 1}})), api.ErrForm}, {choose(item(2, nodes{{Op: api.OpCol, Name: "a", V: api.Value{N: 1}}})), api.ErrForm}, {choose(item(1, slices.Concat(a, a))), api.ErrForm}, {choose(item(1, make(nodes, 61))), api.ErrForm},
		{choose(item(5, one), item(0, deep)), api.ErrKind}, {choose(item(0, deep), item(5, one)), api.ErrDeep}, {choose(item(2, one), item(5, one)), api.ErrForm}, {by(choose(item(5, one)), make([]string, 9)...), api.ErrKind},
		{by(choose(), make([]string, 9)...), api.ErrMany}, {by(choose(), make([]string, 8)...), api.ErrForm}, {by(choose(item(0, a)), "a"), 0}, {by(choose(item(0, a)), "A"), api.ErrForm}, {by(choose(item(0, a)), "a", "null"), api.ErrForm}, {by(choose(item(0, a)), "b"), api.ErrForm}, {by(choose(), "a"), api.ErrForm}, {by(choose(item(0, a), item(0, a)), "a"), api.ErrForm}, {by(choose(item(0, a), item(1, nil)), "a"), 0}, {by(choose(item(1, a)), "a"), api.ErrForm}, {by(choose(item(0, exprOf("'a'"))), "a"), api.ErrForm}, {by(choose(item(0, a)), "a", "a"), api.ErrForm}, {by(choose(item(0, a), item(0, a)), "a", "a"), 0}, {choose(item(1, nil), item(0, a)), api.ErrForm}, {choose(item(0, a), item(1, nil)), api.ErrForm}, {by(choose(item(0, a), item(1, nil), item(0, a)), "a"), api.ErrForm}, {by(choose(item(0, exprOf("a + 1"))), "a"), api.ErrForm},
		{order(by(choose(), "a"), api.Key{Col: -1}), api.ErrForm}, {order(choose(), make([]api.Key, 9)...), api.ErrMany}, {order(choose(), make([]api.Key, 8)...), 0}, {order(choose(), api.Key{Col: -1}), api.ErrRange}, {order(choose(), api.Key{Col: 7}), 0}, {order(choose(), api.Key{Col: 7}, api.Key{Col: 8}), api.ErrRange}, {order(choose(), api.Key{Col: math.MaxInt}), api.ErrRange}, {order(choose(), api.Key{Col: math.MinInt}), api.ErrRange}, {order(choose(), append(make([]api.Key, 8), api.Key{Col: -1})...), api.ErrMany},
		{limit(choose(), true, 0, 0), 0}, {limit(choose(), true, math.MaxInt, math.MaxInt), 0}, {limit(choose(), true, -1, 0), api.ErrRange}, {limit(choose(), true, 0, -1), api.ErrRange}, {limit(choose(), false, -1, 0), api.ErrRange}, {limit(choose(), false, 1, -1), api.ErrRange}, {limit(choose(), false, math.MinInt, 1), api.ErrRange}, {limit(choose(), false, 1, 0), api.ErrForm}, {limit(choose(), false, 0, 1), api.ErrForm}, {limit(order(choose(), make([]api.Key, 9)...), true, -1, 0), api.ErrMany}, {limit(order(choose(), api.Key{Col: 8}), false, 1, 1), api.ErrRange},
		{where(limit(choose(), false, 1, 0), wrong), api.ErrForm}, {where(limit(choose(), true, 1, 0), wrong), api.ErrKind}, {where(choose(), deep), api.ErrDeep}, {where(choose(), make(nodes, 61)), api.ErrMany}, {where(order(choose(), api.Key{Col: 8}), wrong), api.ErrRange}, {where(choose(item(2, one)), wrong), api.ErrForm},
		{where(api.Stmt{Kind: api.Delete, Table: "t"}, wrong), api.ErrKind}, {where(api.Stmt{Kind: api.Delete, Table: "T"}, wrong), api.ErrForm}, {where(api.Stmt{Kind: api.Drop, Table: "t"}, one), api.ErrForm}, {where(create(), one), api.ErrForm}, {where(insert(), one), api.ErrForm},
	} {
		if got, _ := hold(t, c.s); got != c.want {
			t.Errorf("%d: Check(%v) = %d; want %d", i, c.s, got, c.want)
		}
	}
}

// spoil makes something of a command wrong, mostly.
func spoil(d *draw, s api.Stmt) api.Stmt {
	var names []string
	for name := range each() {
		names = append(names, name)
	}
	slices.Sort(names)
	wrong := []nodes{nil, {{}}, exprOf("1"), exprOf("a"), exprOf("a + 1"), make(nodes, 61), append(exprOf(nots(11)), api.Node{Op: api.OpNot, Kids: 1}), {{Op: api.OpCol, Name: "A"}}}
	e, name := wrong[d.below(len(wrong))], d.one("", "A", "null", "a", "b", long(13))
	switch k := d.below(9); {
	case k == 0:
		s.Kind = d.below(12) - 1
	case k == 1:
		s = with(s, names[d.below(len(names))])
	case k == 2:
		s.Table = name
	case k == 3:
		s.Where = e
	case k == 4 && s.Kind == api.Select:
		s.Skip, s.Most, s.Lim = d.below(3)-1, d.below(3)-1, d.coin()
	case k == 5 && s.Kind == api.Select:
		s.Order = append(s.Order, slices.Repeat([]api.Key{{Col: d.below(11) - 1}}, 1+d.below(9))...)
	case k == 6 && s.Kind == api.Select:
		s.By = append(s.By, slices.Repeat([]string{name}, 1+d.below(9))...)
	case s.Kind == api.Select:
		s.Items = append(s.Items, slices.Repeat([]api.Item{{Agg: d.below(7) - 1, E: e}}, 1+d.below(4))...)
		i, j := d.below(len(s.Items)), d.below(len(s.Items))
		s.Items[i], s.Items[j] = s.Items[j], s.Items[i]
	case s.Kind == api.Create:
		s.Cols = append(s.Cols, slices.Repeat([]api.Column{{Name: name, Kind: d.below(7) - 1}}, d.below(3))...)
		s.Cols = s.Cols[d.below(len(s.Cols)+1):]
	case s.Kind == api.Insert:
		s.Rows = append(s.Rows, slices.Repeat([][]nodes{slices.Repeat([]nodes{e}, d.below(8))}, d.below(3))...)
		s.Rows = s.Rows[d.below(len(s.Rows)+1):]
	case s.Kind == api.Update:
		s.Sets = append(s.Sets, slices.Repeat([]api.Assign{{Name: name, E: e}}, d.below(3))...)
		s.Sets = s.Sets[d.below(len(s.Sets)+1):]
	}
	return s
}

// R2, P1: drawn commands to which something was done.
func TestDrawnChecks(t *testing.T) {
	d := draw(2)
	checks := map[api.Errno]int{}
	for range 40000 {
		s := drawnStmt(&d)
		for range 1 + d.below(3) {
			s = spoil(&d, s)
		}
		err, _ := hold(t, s)
		checks[err]++
	}
	for _, err := range []api.Errno{api.OK, api.ErrForm, api.ErrMany, api.ErrRange, api.ErrTwice, api.ErrKind, api.ErrDeep} {
		if checks[err] < 100 {
			t.Errorf("%d: drawn too few: %d", err, checks[err])
		}
	}
}

// P2: what is handed in is only read, the room behind it too; what is answered is new memory, no two lists of it share any, and a later change is not seen in it.
func TestOnlyRead(t *testing.T) {
	d := draw(3)
	for range 2000 {
		s := roomy(drawnStmt(&d))
		if d.below(4) == 0 {
			s = roomy(spoil(&d, s))
		}
		was := fmt.Sprint(entire(reflect.ValueOf(s)))
		Check(s)
		l, err := Tokens(s)
		if shared(l, s) || fmt.Sprint(entire(reflect.ValueOf(s))) != was {
			t.Fatalf("Tokens: memory is shared, or %s has become %v", was, entire(reflect.ValueOf(s)))
		}
		if err != api.OK {
			continue
		}
		handed := append(slices.Clone(l), api.Token{Kind: 9}, api.Token{Kind: 8})
		were := slices.Clone(handed)
		back, _ := Parse(handed[:len(l)])
		again, _ := Parse(handed[:len(l)])
		if shared(back, handed, s, again) || !slices.Equal(handed, were) {
			t.Fatalf("Parse: memory is shared, or %v has become %v", were, handed)
		}
		clear(handed)
		if !same(back, s) {
			t.Fatalf("a change is seen in what was answered: %v; it was %v", back, s)
		}
	}
	// One expression that is handed in often.
	e := exprOf("a")
	s := api.Stmt{Kind: api.Select, Table: "t", Items: []api.Item{{E: e}, {E: e}}, Where: e}
	hold(t, s)
	if !slices.Equal(e, exprOf("a")) {
		t.Errorf("%v", e)
	}
}

// P3: whatever was asked ahead of it, and whoever asks at the same time.
func TestNothingIsKept(t *testing.T) {
	var hands sync.WaitGroup
	for seed := range 4 {
		hands.Go(func() {
			d := draw(60 + seed)
			for range 500 {
				s := drawnStmt(&d)
				if got, want := Check(s), modelCheck(s); got != want {
					t.Errorf("Check(%v) = %d; want %d", s, got, want)
				}
				l, err := Tokens(s)
				for range 2 {
					if back, backErr := Parse(l); err == api.OK && (backErr != api.OK || !same(back, s)) {
						t.Errorf("%v is read as %v, %d; want %v", l, back, backErr, s)
					}
				}
			}
		})
	}
	hands.Wait()
}
