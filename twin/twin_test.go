package twin

import (
	"reflect"
	"testing"

	"starling/api"
)

// session has something in each of its lists.
func session() api.Session {
	disk := func(s string) api.Disk {
		return api.Disk{Pages: []string{s, "x"}, Waiting: []api.Write{{No: 1, Text: s}}}
	}
	return api.Session{Store: api.Store{Data: disk("d"), Journal: disk("j")}, DB: tables(), Kept: api.DB{Next: 1}, InTx: true, Hurt: true}
}

func tables() api.DB {
	cols := []api.Column{{Name: "a", Kind: api.Int, NotNull: true}, {Name: "b", Unique: true}}
	rows := []api.Entry{{Id: 1, Row: []api.Value{{Kind: api.Int, N: 5}, {Kind: api.Text, S: "x"}}}, {Id: 4, Row: []api.Value{{Kind: api.Int, N: 6}, {}}}}
	return api.DB{Next: 9, Tables: []api.Table{{Schema: api.Schema{Id: 2, Name: "t", Cols: cols}, Rows: rows}, {Schema: api.Schema{Id: 3, Name: "u"}}}}
}

// lists goes through all lists of a value.
func lists(v reflect.Value, see func(list reflect.Value)) {
	switch v.Kind() {
	case reflect.Slice:
		see(v)
		for i := range v.Len() {
			lists(v.Index(i), see)
		}
	case reflect.Struct:
		for i := range v.NumField() {
			lists(v.Field(i), see)
		}
	}
}

// P2: what is answered is the same, and has no memory of what was handed in.
func TestOwn(t *testing.T) {
	s, d := session(), tables()
	twins := []any{Session(s), DB(d)}
	for i, of := range []any{s, d} {
		if !reflect.DeepEqual(twins[i], of) {
			t.Errorf("%v; want %v", twins[i], of)
		}
		known := map[uintptr]int{}
		see := func(list reflect.Value) {
			if list.Cap() > 0 {
				known[list.Pointer()]++
			}
		}
		lists(reflect.ValueOf(of), see)
		lists(reflect.ValueOf(twins[i]), see)
		for at, count := range known {
			if count > 1 {
				t.Errorf("%v: %d lists lie at %x", of, count, at)
			}
		}
		lists(reflect.ValueOf(of), func(list reflect.Value) { list.Clear() })
	}
	if want := []any{session(), tables()}; !reflect.DeepEqual(twins, want) {
		t.Errorf("a change is seen: %v; want %v", twins, want)
	}
	if got := DB(api.DB{}); !reflect.DeepEqual(got, api.DB{}) {
		t.Errorf("%v", got)
	}
	if got := Session(api.Session{}); !reflect.DeepEqual(got, api.Session{}) {
		t.Errorf("%v", got)
	}
}

// P2: room behind a list without elements is the caller's.
func TestNoRoom(t *testing.T) {
	s := session()
	lists(reflect.ValueOf(&s).Elem(), func(list reflect.Value) { list.SetLen(0) })
	lists(reflect.ValueOf(Session(s)), func(list reflect.Value) {
		if list.Cap() > 0 {
			t.Errorf("there is room for %d in %v", list.Cap(), list)
		}
	})
}

// W1: tables are the same just if all that they have is.
func TestSame(t *testing.T) {
	if !Same(tables(), tables()) || !Same(api.DB{}, api.DB{Tables: []api.Table{}}) {
		t.Error("the same is not the same")
	}
	empty := tables()
	empty.Tables[1] = api.Table{Schema: api.Schema{Id: 3, Name: "u", Cols: []api.Column{}}, Rows: []api.Entry{}}
	if !Same(tables(), empty) || !Same(empty, tables()) {
		t.Error("a list without elements is another one")
	}
	for i, change := range []func(d *api.DB){
		func(d *api.DB) { d.Next++ },
		func(d *api.DB) { d.Tables = d.Tables[:1] },
		func(d *api.DB) { d.Tables = nil },
		func(d *api.DB) { d.Tables[0], d.Tables[1] = d.Tables[1], d.Tables[0] },
		func(d *api.DB) { d.Tables[1].Schema.Id++ },
		func(d *api.DB) { d.Tables[1].Schema.Name = "v" },
		func(d *api.DB) { d.Tables[1].Schema.Cols = make([]api.Column, 1) },
		func(d *api.DB) { d.Tables[0].Schema.Cols[0].Name = "c" },
		func(d *api.DB) { d.Tables[0].Schema.Cols[0].Kind = api.Text },
		func(d *api.DB) { d.Tables[0].Schema.Cols[0].NotNull = false },
		func(d *api.DB) { d.Tables[0].Schema.Cols[1].Unique = false },
		func(d *api.DB) { d.Tables[1].Rows = make([]api.Entry, 1) },
		func(d *api.DB) { d.Tables[0].Rows = d.Tables[0].Rows[:1] },
		func(d *api.DB) { d.Tables[0].Rows[1].Id++ },
		func(d *api.DB) { d.Tables[0].Rows[1].Row = d.Tables[0].Rows[1].Row[:1] },
		func(d *api.DB) { d.Tables[0].Rows[0].Row[0].N++ },
		func(d *api.DB) { d.Tables[0].Rows[0].Row[1].S = "y" },
		func(d *api.DB) { d.Tables[0].Rows[0].Row[1].Kind = api.Blob },
	} {
		other := tables()
		change(&other)
		if Same(tables(), other) || Same(other, tables()) {
			t.Errorf("%d: %v is taken for the same", i, other)
		}
	}
}
