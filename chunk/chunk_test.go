package chunk

import (
	"fmt"
	"math"
	"math/rand"
	"reflect"
	"slices"
	"strings"
	"testing"

	"tideline/api"
	"tideline/base"
	"tideline/disk"
	"tideline/key"
	"tideline/parse"
	"tideline/row"
	"tideline/segment"
	"tideline/span"
	"tideline/value"
)

func num(i int64) api.Value   { return api.Value{Kind: api.Int, Int: i} }
func text(s string) api.Value { return api.Value{Kind: api.Text, Text: s} }

func defined(t *testing.T, sql string) api.Stmt {
	t.Helper()
	s, _, code := parse.Parse(sql)
	if code != api.OK || s.Kind != api.StTable {
		t.Fatalf("%s: %d", sql, code)
	}
	return s
}

func plain(t *testing.T) api.Stmt {
	return defined(t, "CREATE TABLE t (time INT, v INT) TIME time EVERY 10")
}

func parted(t *testing.T) api.Stmt {
	return defined(t, "CREATE TABLE p (d TEXT, time INT, b BOOL) TIME time EVERY 7 SPACE d INTO 3")
}

func fresh(t *testing.T, n int) (*disk.Disk, *base.Base) {
	t.Helper()
	d, _ := disk.New(n)
	b, code := base.Open(d)
	is(t, "Open", code, api.OK)
	return d, b
}

func is(t *testing.T, what string, got, want any) {
	t.Helper()
	if fmt.Sprint(got) != fmt.Sprint(want) {
		t.Fatalf("%s: %v, not %v", what, got, want)
	}
}

func lines(rows [][]api.Value) string {
	var l []string
	for _, r := range rows {
		l = append(l, value.Line(r))
	}
	return strings.Join(l, "; ")
}

func all() api.Span { return api.Span{From: math.MinInt64, To: math.MaxInt64} }

func rows(t *testing.T, b *base.Base, s api.Stmt, from, to int64, v ...api.Value) string {
	t.Helper()
	l, code := Rows(b, s, api.Span{From: from, To: to}, v)
	is(t, "Rows", code, api.OK)
	return lines(l)
}

func chunks(t *testing.T, b *base.Base, s api.Stmt) string {
	t.Helper()
	l, code := Chunks(b, s)
	is(t, "Chunks", code, api.OK)
	return fmt.Sprint(l)
}

func TestExamples(t *testing.T) {
	_, b := fresh(t, 100)
	s := plain(t)
	is(t, "Put", []any{Put(b, s, []api.Value{num(7), num(1)}), Put(b, s, []api.Value{num(12), num(2)})}, []any{api.OK, api.OK})
	is(t, "Rows", rows(t, b, s, 0, 10), "7, 1")
	is(t, "Chunks", chunks(t, b, s), "[{0 0 false 1} {10 0 false 1}]")
	is(t, "Pack", Pack(b, s, 10), api.OK)
	is(t, "Chunks", chunks(t, b, s), "[{0 0 true 1} {10 0 false 1}]")
	is(t, "Rows", rows(t, b, s, math.MinInt64, math.MaxInt64), "7, 1; 12, 2")
	is(t, "Put", Put(b, s, []api.Value{num(3), num(9)}), api.OK)
	is(t, "Chunks", chunks(t, b, s), "[{0 0 false 2} {10 0 false 1}]")
	n, code := Drop(b, s, 10)
	is(t, "Drop", []any{n, code}, []any{2, api.OK})
	is(t, "Put", []any{Put(b, s, []api.Value{{}, num(1)}), Put(b, s, []api.Value{num(7)}), Put(b, s, []api.Value{text("x"), num(1)})}, []any{api.ErrNull, api.ErrArg, api.ErrType})
	at, ok, code := Newest(b, s)
	is(t, "Newest", []any{at, ok, code}, []any{12, true, api.OK})
}

func TestCheck(t *testing.T) {
	s := parted(t)
	long, yes := text(strings.Repeat("a", 65)), api.Value{Kind: api.Bool, Int: 1}
	for _, x := range []struct {
		l    []api.Value
		code api.Errno
	}{
		{[]api.Value{text(strings.Repeat("a", 64)), num(1), yes}, api.OK}, {[]api.Value{{}, num(api.MinTime), {}}, api.OK}, {[]api.Value{{}, num(api.MaxTime), {}}, api.OK},
		{nil, api.ErrArg}, {[]api.Value{{}, num(1)}, api.ErrArg}, {[]api.Value{{}, num(1), {}, {}}, api.ErrArg},
		{[]api.Value{num(1), num(1), yes}, api.ErrType}, {[]api.Value{{Kind: api.Text, Int: 1}, num(1), yes}, api.ErrType}, {[]api.Value{{}, {}, {Kind: api.Bool, Int: 2}}, api.ErrType}, {[]api.Value{{}, text("a"), {}}, api.ErrType}, {[]api.Value{{}, {}, num(1)}, api.ErrType},
		{[]api.Value{long, num(1), yes}, api.ErrLong}, {[]api.Value{long, num(1), num(1)}, api.ErrLong}, {[]api.Value{long, {}, yes}, api.ErrLong}, {[]api.Value{num(1), text("a"), yes}, api.ErrType},
		{[]api.Value{{}, {}, {}}, api.ErrNull}, {[]api.Value{{}, num(api.MaxTime + 1), {}}, api.ErrRange}, {[]api.Value{{}, num(api.MinTime - 1), {}}, api.ErrRange},
	} {
		if code := Check(s, x.l); code != x.code {
			t.Errorf("Check(%v) = %d", x.l, code)
		}
		_, b := fresh(t, 100)
		if code := Put(b, s, x.l); code != x.code {
			t.Errorf("Put(%v) = %d", x.l, code)
		}
		if x.code != api.OK && rows(t, b, s, math.MinInt64, math.MaxInt64) != "" {
			t.Errorf("%v was put", x.l)
		}
	}
}

func TestNil(t *testing.T) {
	s := plain(t)
	turn := func(l []api.Value) ([]api.Value, bool) { return nil, true }
	rows, c1 := Rows(nil, s, all(), nil)
	gone, come, c2 := Change(nil, s, all(), nil, turn)
	n, c3 := Drop(nil, s, 0)
	l, c4 := Chunks(nil, s)
	at, ok, c5 := Newest(nil, s)
	is(t, "nil", []any{Put(nil, s, nil), rows, c1, gone, come, c2, Pack(nil, s, 0), Unpack(nil, s, 0), n, c3, l, c4, at, ok, c5, Clear(nil, s)},
		[]any{api.ErrNil, [][]api.Value(nil), api.ErrNil, [][]api.Value(nil), [][]api.Value(nil), api.ErrNil, api.ErrNil, api.ErrNil, 0, api.ErrNil, []Chunk(nil), api.ErrNil, 0, false, api.ErrNil, api.ErrNil})
	// What is no table is no panic either.
	_, b := fresh(t, 50)
	for _, s := range []api.Stmt{{}, {Kind: api.StTable, Name: "t", Cols: []api.Column{{Name: "a", Type: api.Int}}, Time: "a", Every: 0}, {Cols: []api.Column{{Name: "a", Type: api.Int}}, Time: "a", Every: 5, Space: "a"}, {Cols: []api.Column{{Name: "a", Type: 9}}, Time: "a", Every: 5, Space: "b", Parts: 3}} {
		Put(b, s, []api.Value{num(1)})
		Check(s, []api.Value{num(1)})
		Rows(b, s, all(), nil)
		Pack(b, s, 100)
		Clear(b, s)
	}
	if _, _, code := Change(b, plain(t), all(), nil, nil); code != api.OK {
		t.Error("no turn")
	}
}

// partOf is that of a text, as the chapter tells it.
func partOf(d api.Value, parts int64) int64 {
	k, _ := key.Append(nil, d)
	h := uint64(2166136261)
	for _, c := range k {
		h = (h ^ uint64(c)) * 16777619 % (1 << 32)
	}
	return int64(h % uint64(parts))
}

// A table's rows are a multiset, whatever is packed and unpacked.
func TestRowsAreAMultiset(t *testing.T) {
	r := rand.New(rand.NewSource(1))
	for _, s := range []api.Stmt{plain(t), parted(t)} {
		_, b := fresh(t, 600)
		other := defined(t, "CREATE TABLE "+s.Name+"_ (time INT) TIME time EVERY 7")
		is(t, "Put", Put(b, other, []api.Value{num(3)}), api.OK)
		time := slices.IndexFunc(s.Cols, func(c api.Column) bool { return c.Name == s.Time })
		var want [][]api.Value
		random := func() []api.Value {
			var l []api.Value
			for i, c := range s.Cols {
				v := []api.Value{{}, {Kind: api.Bool, Int: int64(r.Intn(2))}, num(int64(r.Intn(5))), text(string(byte('a' + r.Intn(6))))}[int(c.Type)*r.Intn(2)]
				if i == time {
					v = num(int64(r.Intn(60) - 30))
				}
				l = append(l, v)
			}
			return l
		}
		take := func(keep func(l []api.Value) bool) (gone [][]api.Value) {
			var left [][]api.Value
			for _, l := range want {
				if keep(l) {
					left = append(left, l)
				} else {
					gone = append(gone, l)
				}
			}
			want = left
			return gone
		}
		end := func(l []api.Value) int64 {
			f, _ := span.Floor(l[time].Int, s.Every)
			return f + s.Every
		}
		for range 1500 {
			before := int64(r.Intn(80) - 40)
			from := int64(r.Intn(80) - 40)
			sp := api.Span{From: from, To: from + int64(r.Intn(30))}
			var v []api.Value
			within := func(l []api.Value) bool { return span.Has(sp, l[time].Int) }
			if s.Space != "" && r.Intn(2) == 0 {
				v = []api.Value{text(string(byte('a' + r.Intn(6))))}
				within = func(l []api.Value) bool {
					return span.Has(sp, l[time].Int) && partOf(l[0], s.Parts) == partOf(v[0], s.Parts)
				}
			}
			switch r.Intn(12) {
			case 0, 1:
				is(t, "Pack", Pack(b, s, before), api.OK)
				l, _ := Chunks(b, s)
				for _, c := range l {
					if c.Start+s.Every <= before && !c.Packed {
						t.Fatalf("%v is not packed", c)
					}
				}
			case 2:
				is(t, "Unpack", Unpack(b, s, before), api.OK)
				l, _ := Chunks(b, s)
				for _, c := range l {
					if c.Start+s.Every <= before && c.Packed {
						t.Fatalf("%v is packed", c)
					}
				}
			case 3:
				if r.Intn(3) > 0 {
					continue
				}
				gone := take(func(l []api.Value) bool { return end(l) > before })
				n, code := Drop(b, s, before)
				is(t, "Drop", []any{n, code}, []any{len(gone), api.OK})
			case 4:
				next := random()
				gone := take(func(l []api.Value) bool { return !within(l) })
				var come [][]api.Value
				for i := range gone {
					if gone[i][time].Int%2 == 0 {
						come = append(come, next)
					}
				}
				asked := 0
				g, c, code := Change(b, s, sp, v, func(l []api.Value) ([]api.Value, bool) {
					asked++
					even := l[time].Int%2 == 0
					l[0] = num(-99)
					if even {
						return next, true
					}
					return nil, true
				})
				is(t, "Change", []any{lines(g), lines(c), code, asked}, []any{lines(value.Sort(gone)), lines(value.Sort(come)), api.OK, len(gone)})
				want = append(want, come...)
			default:
				l := random()
				is(t, "Put", Put(b, s, l), api.OK)
				want = append(want, l)
			}
			var some [][]api.Value
			for _, l := range want {
				if within(l) {
					some = append(some, l)
				}
			}
			is(t, "Rows", rows(t, b, s, sp.From, sp.To, v...), lines(value.Sort(some)))
			at, ok, code := Newest(b, s)
			newest := int64(math.MinInt64)
			for _, l := range want {
				newest = max(newest, l[time].Int)
			}
			if code != api.OK || ok != (len(want) > 0) || ok && at != newest || !ok && at != 0 {
				t.Fatalf("Newest: %d, %v, %d, not %d", at, ok, code, newest)
			}
			if r.Intn(20) == 0 {
				is(t, "Rows", rows(t, b, s, math.MinInt64, math.MaxInt64), lines(value.Sort(want)))
				counts := map[[2]int64]int64{}
				for _, l := range want {
					p := int64(0)
					if s.Space != "" {
						p = partOf(l[0], s.Parts)
					}
					counts[[2]int64{end(l) - s.Every, p}]++
				}
				l, _ := Chunks(b, s)
				for i, c := range l {
					if counts[[2]int64{c.Start, c.Part}] != c.Rows || i > 0 && (l[i-1].Start > c.Start || l[i-1].Start == c.Start && l[i-1].Part >= c.Part) {
						t.Fatalf("chunk %v", c)
					}
				}
				is(t, "Chunks", len(l), len(counts))
			}
		}
		is(t, "Clear", Clear(b, s), api.OK)
		is(t, "Rows", rows(t, b, s, math.MinInt64, math.MaxInt64)+chunks(t, b, s), "[]")
		is(t, "Rows of another table", rows(t, b, other, 0, 10), "3")
		is(t, "Clear", Clear(b, other), api.OK)
		left, _ := b.Range(nil, nil)
		is(t, "what is left", len(left), 0)
	}
}

func TestChangeErrors(t *testing.T) {
	_, b := fresh(t, 100)
	s := plain(t)
	for i := range int64(5) {
		Put(b, s, []api.Value{num(i), num(i)})
	}
	Pack(b, s, 100)
	gone, come, code := Change(b, s, all(), nil, func(l []api.Value) ([]api.Value, bool) {
		switch l[0].Int {
		case 1:
			return []api.Value{{}, num(1)}, true // 45
		case 2:
			return []api.Value{num(1), text("a")}, true // 40
		case 3:
			return []api.Value{{}}, false
		case 4:
			return nil, true
		}
		return l, true
	})
	is(t, "Change", []any{gone, come, code}, []any{[][]api.Value(nil), [][]api.Value(nil), api.ErrType})
	is(t, "Chunks", chunks(t, b, s), "[{0 0 true 5}]")
	// A row that is put into a packed chunk unpacks it; a chunk that loses none stays.
	Put(b, s, []api.Value{num(25), num(9)})
	Pack(b, s, 100)
	_, _, code = Change(b, s, api.Span{From: 3, To: 4}, nil, func(l []api.Value) ([]api.Value, bool) { return []api.Value{num(15), {}}, true })
	is(t, "Change", code, api.OK)
	is(t, "Chunks", chunks(t, b, s), "[{0 0 false 4} {10 0 false 1} {20 0 true 1}]")
}

// What lies in the base is what the chapter says.
func TestInTheBase(t *testing.T) {
	_, b := fresh(t, 100)
	s := parted(t)
	row1, row2 := []api.Value{text("x"), num(-1), {}}, []api.Value{text("x"), num(-7), {Kind: api.Bool, Int: 1}}
	Put(b, s, row1)
	Put(b, s, row2)
	types := []uint8{api.Text, api.Int, api.Bool}
	k := func(l ...api.Value) string { b, _ := key.Append(nil, l...); return string(b) }
	n := func(i int64) string { b, _ := row.Put([]uint8{api.Int}, []api.Value{num(i)}); return string(b) }
	bytes := func(l []api.Value) string { b, _ := row.Put(types, l); return string(b) }
	p := num(partOf(text("x"), 3))
	look := func(want map[string]string) {
		t.Helper()
		l, _ := b.Range(nil, nil)
		got := map[string]string{}
		for _, p := range l {
			got[string(p.Key)] = string(p.Value)
		}
		if !reflect.DeepEqual(got, want) {
			t.Fatalf("%q, not %q", got, want)
		}
	}
	look(map[string]string{
		k(num(3), text("p"), num(-7), p, num(-1), num(0)): bytes(row1),
		k(num(3), text("p"), num(-7), p, num(-7), num(1)): bytes(row2),
		k(num(5), text("p")):                              n(2),
	})
	Pack(b, s, 0)
	pieces, _ := segment.Make(types, [][]api.Value{row2, row1})
	look(map[string]string{
		k(num(2), text("p"), num(-7), p):         n(2),
		k(num(4), text("p"), num(-7), p, num(0)): string(pieces[0]),
		k(num(5), text("p")):                     n(2),
	})
	Unpack(b, s, 0)
	look(map[string]string{
		k(num(3), text("p"), num(-7), p, num(-7), num(2)): bytes(row2),
		k(num(3), text("p"), num(-7), p, num(-1), num(3)): bytes(row1),
		k(num(5), text("p")):                              n(4),
	})
}

func TestBroken(t *testing.T) {
	s := plain(t)
	k := func(l ...api.Value) []byte { b, _ := key.Append(nil, l...); return b }
	name := text("t")
	one := []byte{0, 2}
	piece, _ := segment.Make([]uint8{api.Int, api.Int}, [][]api.Value{{num(15), {}}})
	for i, x := range []struct {
		key, value []byte
		more       [][]byte
	}{
		{key: k(num(3), name, num(0), num(0), num(1), num(9)), value: []byte{9}},
		{key: k(num(3), name, num(0), num(0), num(1), num(9)), value: []byte{2, 4}},                                                   // another time
		{key: k(num(3), name, num(10), num(0), num(1), num(9)), value: []byte{2, 2}},                                                  // another chunk
		{key: k(num(3), name, num(0), num(1), num(1), num(9)), value: []byte{2, 2}},                                                   // another part
		{key: k(num(3), name, num(0), num(0), num(1)), value: []byte{2, 2}},                                                           // a number is missing
		{key: k(num(3), name, num(0), num(0), num(1), text("a")), value: []byte{2, 2}},                                                // is none
		{key: append(k(num(3), name, num(0), num(0), num(1), num(9)), 7), value: []byte{2, 2}},                                        // no bytes of values
		{key: k(num(2), name, num(10), num(0)), value: one},                                                                           // no pieces
		{key: k(num(2), name, num(10), num(0)), value: []byte{1}, more: [][]byte{k(num(4), name, num(10), num(0), num(0)), piece[0]}}, // no number
		{key: k(num(2), name, num(10), num(0)), value: []byte{0, 4}, more: [][]byte{k(num(4), name, num(10), num(0), num(0)), piece[0]}},
		{key: k(num(2), name, num(10), num(0)), value: one, more: [][]byte{k(num(4), name, num(10), num(0), num(1)), piece[0]}},
		{key: k(num(2), name, num(10), num(0)), value: one, more: [][]byte{k(num(4), name, num(10), num(0), num(0)), {1, 2}}},
		{key: k(num(2), name, num(20), num(0)), value: one, more: [][]byte{k(num(4), name, num(20), num(0), num(0)), piece[0]}},
		{key: k(num(2), name, num(10)), value: one},
	} {
		_, b := fresh(t, 100)
		Put(b, s, []api.Value{num(12), num(1)})
		Drop(b, s, 100)
		b.Put(x.key, x.value)
		if len(x.more) > 0 {
			b.Put(x.more[0], x.more[1])
		}
		if l, code := Rows(b, s, api.Span{From: -100, To: 100}, nil); code != api.ErrBroken || l != nil {
			t.Errorf("%d: Rows: %v, %d", i, l, code)
		}
		if _, _, code := Change(b, s, api.Span{From: -100, To: 100}, nil, func(l []api.Value) ([]api.Value, bool) { return nil, true }); code != api.ErrBroken {
			t.Errorf("%d: Change: %d", i, code)
		}
		c1 := Pack(b, s, 100)
		if c2 := Unpack(b, s, 100); c1 != api.ErrBroken && c2 != api.ErrBroken {
			t.Errorf("%d: Pack %d, Unpack %d", i, c1, c2)
		}
	}
	_, b := fresh(t, 100)
	b.Put(k(num(5), name), []byte{7})
	is(t, "Put", Put(b, s, []api.Value{num(1), num(1)}), api.ErrBroken)
	_, b = fresh(t, 100)
	Put(b, s, []api.Value{num(12), num(1)})
	b.Put(k(num(2), name, num(10), num(0)), one)
	_, code := Chunks(b, s)
	is(t, "both packed and not", code, api.ErrBroken)
}

func TestTooManyRows(t *testing.T) {
	_, b := fresh(t, api.MaxPages)
	s := defined(t, "CREATE TABLE t (time INT) TIME time EVERY 100000")
	for i := range int64(api.MaxRows) {
		if code := Put(b, s, []api.Value{num(i)}); code != api.OK {
			t.Fatalf("Put %d: %d", i, code)
		}
	}
	is(t, "Pack", Pack(b, s, 100000), api.OK)
	is(t, "Chunks", chunks(t, b, s), "[{0 0 true 65536}]")
	is(t, "Put", Put(b, s, []api.Value{num(5)}), api.OK)
	is(t, "Chunks", chunks(t, b, s), "[{0 0 false 65537}]")
	is(t, "Pack", Pack(b, s, 100000), api.ErrLong)
}

func TestNoPower(t *testing.T) {
	d, b := fresh(t, 100)
	s := plain(t)
	Put(b, s, []api.Value{num(1), num(1)})
	b.Commit()
	d.Kill()
	_, c1 := Rows(b, s, all(), nil)
	_, c2 := Chunks(b, s)
	is(t, "dead", []any{Put(b, s, []api.Value{num(1), num(1)}), c1, c2, Pack(b, s, 0), Clear(b, s)}, []any{api.ErrDead, api.ErrDead, api.ErrDead, api.ErrDead, api.ErrDead})
	d, b = fresh(t, 12)
	code := api.OK
	for i := int64(0); code == api.OK; i++ {
		code = Put(b, s, []api.Value{num(i * 100), num(i)})
	}
	is(t, "Put", code, api.ErrFull)
}

func TestTheEndsOfTimes(t *testing.T) {
	_, b := fresh(t, 100)
	s := plain(t)
	for _, n := range []int64{api.MinTime, api.MaxTime} {
		is(t, "Put", Put(b, s, []api.Value{num(n), num(1)}), api.OK)
	}
	want := "-4611686018427387904, 1; 4611686018427387903, 1"
	is(t, "Rows", rows(t, b, s, math.MinInt64, math.MaxInt64), want)
	is(t, "Rows", rows(t, b, s, api.MaxTime, api.MaxTime+1), "4611686018427387903, 1")
	is(t, "Pack", Pack(b, s, api.MaxTime+api.MaxEvery), api.OK)
	is(t, "Rows", rows(t, b, s, math.MinInt64, math.MaxInt64), want)
	is(t, "Chunks", chunks(t, b, s), "[{-4611686018427387910 0 true 1} {4611686018427387900 0 true 1}]")
	n, code := Drop(b, s, math.MaxInt64)
	is(t, "Drop", []any{n, code}, []any{2, api.OK})
}

func TestOfSeveralErrorsTheLeast(t *testing.T) {
	_, b := fresh(t, 100)
	s := plain(t)
	for i := range int64(3) {
		Put(b, s, []api.Value{num(i), num(i)})
	}
	wrong := [][]api.Value{{text("a"), num(1)}, {{}, num(1)}, {num(1)}} // 40, 45, 1
	for _, x := range []struct {
		order [3]int
		want  api.Errno
	}{{[3]int{0, 1, 0}, api.ErrType}, {[3]int{1, 0, 1}, api.ErrType}, {[3]int{0, 2, 1}, api.ErrArg}, {[3]int{1, 1, 1}, api.ErrNull}} {
		_, _, code := Change(b, s, all(), nil, func(l []api.Value) ([]api.Value, bool) { return wrong[x.order[l[0].Int]], true })
		is(t, "Change", code, x.want)
	}
}
