package chunk

import (
	"iter"
	"slices"

	"tideline/api"
	"tideline/base"
	"tideline/fault"
	"tideline/key"
	"tideline/part"
	"tideline/row"
	"tideline/segment"
	"tideline/span"
)

// What the keys of a table's things begin with.
const (
	kindPacked = 2 // chunk, part: how many rows
	kindRow    = 3 // chunk, part, time, number: a row
	kindPiece  = 4 // chunk, part, i: a piece
	kindNumber = 5 // the next number
)

// place is a chunk's, and its part's.
type place struct{ start, part int64 }

// table is one in a base.
type table struct {
	b     *base.Base
	t     api.Stmt
	types []uint8
	time  int // the places of columns
	space int // -1, if there is none
}

// open is a table in a base; the error, if there is no base, or no such table.
func open(b *base.Base, t api.Stmt) (*table, api.Errno) {
	if b == nil {
		return nil, api.ErrNil
	}
	x := &table{b: b, t: t, time: column(t, t.Time), space: -1}
	for _, c := range t.Cols {
		x.types = append(x.types, c.Type)
	}
	if x.time < 0 || !span.Width(t.Every) {
		return nil, api.ErrArg
	}
	if t.Space != "" {
		x.space = column(t, t.Space)
		if x.space < 0 || t.Parts < 1 || t.Parts > api.MaxParts {
			return nil, api.ErrArg
		}
	}
	return x, api.OK
}

func column(t api.Stmt, name string) int {
	return slices.IndexFunc(t.Cols, func(c api.Column) bool { return c.Name == name })
}

func number(n int64) api.Value { return api.Value{Kind: api.Int, Int: n} }

// named is the key of a kind, a name, and numbers.
func named(kind int64, name string, more ...int64) []byte {
	l := []api.Value{number(kind), {Kind: api.Text, Text: name}}
	for _, n := range more {
		l = append(l, number(n))
	}
	b, code := key.Append(nil, l...)
	fault.Need(code)
	return b
}

func (x *table) key(kind int64, more ...int64) []byte { return named(kind, x.t.Name, more...) }

// pair is what lies in the base: the numbers of its key, behind the name, and its value.
type pair struct {
	key   []byte
	nums  []int64
	value []byte
}

// between are the pairs from a key on, below another one, whose keys have so many numbers.
func (x *table) between(from, to []byte, count int) iter.Seq[pair] {
	return func(yield func(pair) bool) {
		l, code := x.b.Range(from, to)
		fault.Need(code)
		for _, p := range l {
			values, code := key.Parse(p.Key)
			if code != api.OK || len(values) != count+2 {
				fault.Need(api.ErrBroken)
			}
			q := pair{key: p.Key, value: p.Value}
			for _, v := range values[2:] {
				if v.Kind != api.Int {
					fault.Need(api.ErrBroken)
				}
				q.nums = append(q.nums, v.Int)
			}
			if !yield(q) {
				return
			}
		}
	}
}

// under are the pairs whose keys begin with one.
func (x *table) under(prefix []byte, count int) iter.Seq[pair] {
	return x.between(prefix, key.After(prefix), count)
}

func (x *table) put(k, v []byte) { fault.Need(x.b.Put(k, v)) }

func (x *table) delete(k []byte) {
	_, code := x.b.Delete(k)
	fault.Need(code)
}

// count is a number as a value in the base.
func count(n int64) []byte {
	b, code := row.Put([]uint8{api.Int}, []api.Value{number(n)})
	fault.Need(code)
	return b
}

// counted is the number that such a value is: from 0 on.
func counted(b []byte) int64 {
	l, code := row.Get([]uint8{api.Int}, b)
	if code != api.OK || l[0].Kind != api.Int || l[0].Int < 0 {
		fault.Need(api.ErrBroken)
	}
	return l[0].Int
}

// part is that of a value of Space.
func (x *table) part(v api.Value) (int64, bool) {
	if x.space < 0 {
		return 0, true
	}
	return part.Of(v, x.t.Parts)
}

// place is a row's.
func (x *table) place(l []api.Value) place {
	start, code := span.Floor(l[x.time].Int, x.t.Every)
	fault.Need(code)
	v := api.Value{}
	if x.space >= 0 {
		v = l[x.space]
	}
	p, _ := x.part(v)
	return place{start, p}
}

// sound throws what is no row of a place.
func (x *table) sound(l []api.Value, p place) {
	if Check(x.t, l) != api.OK || x.place(l) != p {
		fault.Need(api.ErrBroken)
	}
}

// record is a row, and where it lies: its key; or, in a packed chunk, none.
type record struct {
	place
	key []byte
	at  int // in its chunk, if that is packed
	row []api.Value
}

// record is the one of a pair of the kind kindRow.
func (x *table) record(p pair) record {
	l, code := row.Get(x.types, p.value)
	if code != api.OK {
		fault.Need(api.ErrBroken)
	}
	r := record{place: place{p.nums[0], p.nums[1]}, key: p.key, row: l}
	x.sound(l, r.place)
	if l[x.time].Int != p.nums[2] {
		fault.Need(api.ErrBroken)
	}
	return r
}

// packed are the packed chunks, with how many rows they have.
func (x *table) packed() iter.Seq2[place, int64] {
	return func(yield func(place, int64) bool) {
		for p := range x.under(x.key(kindPacked), 2) {
			if !yield(place{p.nums[0], p.nums[1]}, counted(p.value)) {
				return
			}
		}
	}
}

// segment is the rows of a packed chunk.
func (x *table) segment(p place, n int64) [][]api.Value {
	var pieces [][]byte
	for q := range x.under(x.key(kindPiece, p.start, p.part), 3) {
		if q.nums[2] != int64(len(pieces)) {
			fault.Need(api.ErrBroken)
		}
		pieces = append(pieces, q.value)
	}
	rows, code := segment.Open(x.types, pieces)
	if code != api.OK || int64(len(rows)) != n {
		fault.Need(api.ErrBroken)
	}
	for _, l := range rows {
		x.sound(l, p)
	}
	return rows
}

// reserve is the first of n numbers that are the next ones.
func (x *table) reserve(n int64) int64 {
	k := x.key(kindNumber)
	b, ok, code := x.b.Get(k)
	fault.Need(code)
	first := int64(0)
	if ok {
		first = counted(b)
	}
	if first > 1<<62 {
		fault.Need(api.ErrBroken)
	}
	x.put(k, count(first+n))
	return first
}

// lay puts rows of a chunk that is not packed, and tells their keys.
func (x *table) lay(p place, rows ...[]api.Value) [][]byte {
	n := x.reserve(int64(len(rows)))
	var keys [][]byte
	for i, l := range rows {
		b, code := row.Put(x.types, l)
		fault.Need(code)
		k := x.key(kindRow, p.start, p.part, l[x.time].Int, n+int64(i))
		x.put(k, b)
		keys = append(keys, k)
	}
	return keys
}

// forget takes all away that lies under a key.
func forget(b *base.Base, prefix []byte) {
	l, code := b.Range(prefix, key.After(prefix))
	fault.Need(code)
	for _, p := range l {
		_, code := b.Delete(p.Key)
		fault.Need(code)
	}
}

// unpack makes rows of a packed chunk's segment, and tells their keys, in its order.
func (x *table) unpack(p place, n int64) [][]byte {
	rows := x.segment(p, n)
	forget(x.b, x.key(kindPiece, p.start, p.part))
	x.delete(x.key(kindPacked, p.start, p.part))
	return x.lay(p, rows...)
}

// add puts a row that may be; its chunk is unpacked first.
func (x *table) add(l []api.Value) {
	p := x.place(l)
	b, ok, code := x.b.Get(x.key(kindPacked, p.start, p.part))
	fault.Need(code)
	if ok {
		x.unpack(p, counted(b))
	}
	x.lay(p, l)
}
