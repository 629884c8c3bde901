package cagg

import (
	"slices"

	"tideline/api"
	"tideline/base"
	"tideline/fault"
	"tideline/key"
	"tideline/row"
	"tideline/spans"
	"tideline/value"
)

// kindStored is what the keys of stored rows begin with: view, bucket, i.
const kindStored = 9

// named is the key of a view's stored rows, and of numbers.
func named(name string, more ...int64) []byte {
	l := []api.Value{{Kind: api.Int, Int: kindStored}, {Kind: api.Text, Text: name}}
	for _, n := range more {
		l = append(l, api.Value{Kind: api.Int, Int: n})
	}
	b, code := key.Append(nil, l...)
	fault.Need(code)
	return b
}

// held is a stored row, and its key.
type held struct {
	key []byte
	row []api.Value
}

// between are the stored rows of a view whose keys are not below one, and below another one.
func (d *data) between(v *view, from, to []byte) []held {
	pairs, code := d.b.Range(from, to)
	fault.Need(code)
	var l []held
	for _, p := range pairs {
		k, code1 := key.Parse(p.Key)
		r, code2 := row.Get(v.types, p.Value)
		if code1 != api.OK || code2 != api.OK || len(k) != 4 || len(r) == 0 || k[2].Kind != api.Int || k[3].Kind != api.Int || r[0] != k[2] {
			fault.Need(api.ErrBroken)
		}
		l = append(l, held{p.Key, r})
	}
	return l
}

// holds are the stored rows of buckets.
func (d *data) holds(v *view, buckets []api.Span) []held {
	var l []held
	for _, s := range spans.Of(buckets...) {
		l = append(l, d.between(v, named(v.Name, s.From), named(v.Name, s.To))...)
	}
	return l
}

func bare(l []held) [][]api.Value {
	var rows [][]api.Value
	for _, h := range l {
		rows = append(rows, h.row)
	}
	return rows
}

func (d *data) stored(v *view, buckets []api.Span) [][]api.Value { return bare(d.holds(v, buckets)) }

func (d *data) everything(v *view) [][]api.Value {
	k := named(v.Name)
	return bare(d.between(v, k, key.After(k)))
}

// tally is how many rows there are of each line.
type tally map[string]int64

func (t tally) come(row []api.Value) { t[value.Line(row)]++ }

// leave takes a row off, and tells whether there was one.
func (t tally) leave(row []api.Value) bool {
	k := value.Line(row)
	if t[k] == 0 {
		return false
	}
	t[k]--
	if t[k] == 0 {
		delete(t, k)
	}
	return true
}

func (t tally) left() int64 {
	n := int64(0)
	for _, c := range t {
		n += c
	}
	return n
}

// byBucket are rows by the buckets that they are of.
func byBucket(rows [][]api.Value) map[int64][][]api.Value {
	m := map[int64][][]api.Value{}
	for _, r := range rows {
		m[r[0].Int] = append(m[r[0].Int], r)
	}
	return m
}

// replace stores rows, which are in order, in the place of all that were stored of buckets, and tells how many came and went.
// What a bucket has already is not written anew.
func (d *data) replace(v *view, buckets []api.Span, rows [][]api.Value) int64 {
	old := d.holds(v, buckets)
	was, will := byBucket(bare(old)), byBucket(rows)
	same := func(at int64) bool {
		return slices.EqualFunc(was[at], will[at], func(a, b []api.Value) bool { return slices.Equal(a, b) })
	}
	changed := tally{}
	for _, r := range rows {
		changed.come(r)
	}
	went := int64(0)
	for _, h := range old {
		if !changed.leave(h.row) {
			went++
		}
		if !same(h.row[0].Int) {
			_, code := d.b.Delete(h.key)
			fault.Need(code)
		}
	}
	last, i := int64(0), int64(0)
	for _, r := range rows {
		at := r[0].Int
		if at != last {
			last, i = at, 0
		}
		if !same(at) {
			b, code := row.Put(v.types, r)
			fault.Need(code)
			fault.Need(d.b.Put(named(v.Name, at, i), b))
		}
		i++
	}
	return went + changed.left()
}

// Clear takes all stored rows of a name away.
func Clear(b *base.Base, name string) api.Errno {
	if b == nil {
		return api.ErrNil
	}
	return fault.Caught(func() {
		k := named(name)
		l, code := b.Range(k, key.After(k))
		fault.Need(code)
		for _, p := range l {
			_, code := b.Delete(p.Key)
			fault.Need(code)
		}
	})
}
