package tree

import (
	"bytes"
	"fmt"
	"math/rand"
	"slices"
	"sort"
	"strings"
	"testing"

	"tideline/api"
	"tideline/disk"
	"tideline/pages"
)

func store(t *testing.T, n int) (*disk.Disk, *pages.Store) {
	t.Helper()
	d, _ := disk.New(n)
	s, code := pages.Open(d)
	if code != api.OK {
		t.Fatal(code)
	}
	return d, s
}

func begin(t *testing.T, n int) *pages.Tx {
	t.Helper()
	_, s := store(t, n)
	x, code := s.Begin()
	if code != api.OK {
		t.Fatal(code)
	}
	return x
}

func is(t *testing.T, what string, got, want any) {
	t.Helper()
	if fmt.Sprint(got) != fmt.Sprint(want) {
		t.Fatalf("%s: %v, not %v", what, got, want)
	}
}

func told(l []Pair) string {
	var s []string
	for _, p := range l {
		s = append(s, string(p.Key)+" "+string(p.Value))
	}
	return strings.Join(s, ", ")
}

func TestExamples(t *testing.T) {
	x := begin(t, 40)
	put := func(k, v string) api.Errno { return Put(x, []byte(k), []byte(v)) }
	is(t, "Put", []any{put("b", "2"), put("a", "1"), put("b", "3")}, []any{api.OK, api.OK, api.OK})
	v, ok, code := Get(x, []byte("b"))
	is(t, "Get", []any{string(v), ok, code}, []any{"3", true, api.OK})
	v, ok, code = Get(x, []byte("c"))
	is(t, "Get", []any{v, ok, code}, []any{[]byte(nil), false, api.OK})
	l, code := Range(x, nil, nil)
	is(t, "Range", []any{told(l), code}, []any{"a 1, b 3", api.OK})
	l, _ = Range(x, []byte("a"), []byte("b"))
	is(t, "Range", told(l), "a 1")
	for _, c := range []struct {
		k    string
		want bool
	}{{"c", false}, {"a", true}, {"a", false}, {"", false}, {"b", true}} {
		ok, code := Delete(x, []byte(c.k))
		is(t, "Delete "+c.k, []any{ok, code}, []any{c.want, api.OK})
	}
	is(t, "Root", x.Root(), 0)
	l, code = Range(x, nil, nil)
	is(t, "Range", []any{len(l), code}, []any{0, api.OK})
	is(t, "Put", []any{put("", "1"), put(strings.Repeat("k", 257), "1"), put("k", strings.Repeat("v", 1025)), put("", strings.Repeat("v", 1025))}, []any{api.ErrArg, api.ErrLong, api.ErrLong, api.ErrArg})
	is(t, "Put", []any{put(strings.Repeat("k", 256), strings.Repeat("v", 1024)), put("k", "")}, []any{api.OK, api.OK})
	v, ok, _ = Get(x, []byte("k"))
	is(t, "Get", []any{len(v), ok}, []any{0, true})
	_, ok, code = Get(x, []byte(strings.Repeat("k", 300)))
	is(t, "Get", []any{ok, code}, []any{false, api.OK})
}

func TestErrors(t *testing.T) {
	long := []byte(strings.Repeat("k", 300))
	all := func(x *pages.Tx, want api.Errno) {
		t.Helper()
		v, ok, c1 := Get(x, []byte("a"))
		gone, c2 := Delete(x, []byte("a"))
		l, c3 := Range(x, nil, nil)
		is(t, "errors", []any{v, ok, c1, gone, c2, l, c3, Put(x, nil, nil), Put(x, long, nil)}, []any{[]byte(nil), false, want, false, want, []Pair(nil), want, want, want})
	}
	all(nil, api.ErrNil)
	d, s := store(t, 40)
	x, _ := s.Begin()
	Put(x, []byte("a"), []byte("1"))
	x.Commit()
	all(x, api.ErrState)
	x, _ = s.Begin()
	d.Kill()
	all(x, api.ErrDead)
}

// model is a tree in a map.
type model map[string]string

func (m model) within(from, to string) string {
	var keys []string
	for k := range m {
		if k >= from && (to == "" || k < to) {
			keys = append(keys, k)
		}
	}
	sort.Strings(keys)
	for i, k := range keys {
		keys[i] = k + " " + m[k]
	}
	return strings.Join(keys, ", ")
}

func key(r *rand.Rand, kind int) string {
	switch kind {
	case 0:
		return strings.Repeat(string(byte('a'+r.Intn(20))), 1+r.Intn(256))
	case 1:
		return fmt.Sprintf("%06d", r.Intn(3000))
	}
	return strings.Repeat("k", 250) + fmt.Sprintf("%05d", r.Intn(900))
}

func TestATreeIsAMap(t *testing.T) {
	for seed := range int64(6) {
		r := rand.New(rand.NewSource(seed))
		x := begin(t, 2000)
		all := x.Left()
		m := model{}
		kind, size := int(seed)%3, []int{10, 1025}[seed/3]
		for round := range 4000 {
			k := key(r, kind)
			if r.Intn(4000) < 2700-round/2 {
				v := strings.Repeat("v", r.Intn(size))
				left := x.Left()
				is(t, "Put", Put(x, []byte(k), []byte(v)), api.OK)
				if left-x.Left() > 8 {
					t.Fatalf("%d pages for a Put", left-x.Left())
				}
				m[k] = v
			} else {
				_, want := m[k]
				left := x.Left()
				ok, code := Delete(x, []byte(k))
				is(t, "Delete", []any{ok, code}, []any{want, api.OK})
				if x.Left() < left {
					t.Fatal("a Delete takes pages")
				}
				delete(m, k)
			}
			k = key(r, kind)
			want, has := m[k]
			v, ok, code := Get(x, []byte(k))
			is(t, "Get", []any{string(v), ok, code}, []any{want, has, api.OK})
			if round%300 == 0 {
				from, to := key(r, kind), key(r, kind)
				for _, b := range [][2]string{{"", ""}, {from, ""}, {"", to}, {from, to}} {
					l, code := Range(x, []byte(b[0]), []byte(b[1]))
					is(t, "Range", code, api.OK)
					if told(l) != m.within(b[0], b[1]) {
						t.Fatalf("Range(%q, %q) is another one", b[0], b[1])
					}
				}
			}
		}
		var keys []string
		for k := range m {
			keys = append(keys, k)
		}
		sort.Strings(keys)
		r.Shuffle(len(keys), func(i, k int) { keys[i], keys[k] = keys[k], keys[i] })
		for _, k := range keys {
			ok, code := Delete(x, []byte(k))
			is(t, "Delete", []any{ok, code}, []any{true, api.OK})
		}
		is(t, "all is free", []any{x.Left(), x.Root()}, []any{all, 0})
	}
}

// What does not fit does nothing; as long as 8 pages are free, it fits.
func TestFull(t *testing.T) {
	for seed := range int64(4) {
		r := rand.New(rand.NewSource(seed))
		x := begin(t, 100)
		m := model{}
		for range 1000 {
			k, v := key(r, int(seed)%3), strings.Repeat("v", r.Intn(1025))
			if seed == 3 {
				k = fmt.Sprintf("%04d", len(m))
			}
			left, root := x.Left(), x.Root()
			code := Put(x, []byte(k), []byte(v))
			if code == api.OK {
				m[k] = v
				continue
			}
			is(t, "Put", code, api.ErrFull)
			if left >= 8 || x.Left() != left || x.Root() != root {
				t.Fatalf("%d were left, and it is full", left)
			}
			if r.Intn(9) == 0 {
				l, _ := Range(x, nil, nil)
				is(t, "as it was", told(l) == m.within("", ""), true)
			}
			if r.Intn(3) > 0 {
				Delete(x, []byte(k))
				delete(m, k)
			}
		}
		if l, _ := Range(x, nil, nil); told(l) != m.within("", "") {
			t.Fatal("another tree")
		}
	}
}

func TestWhatComesInOrderFillsPages(t *testing.T) {
	x := begin(t, 2000)
	left := x.Left()
	for i := range 4000 {
		is(t, "Put", Put(x, fmt.Appendf(nil, "%08d", i), []byte("12345678")), api.OK)
	}
	if used := left - x.Left(); used > 4000*20/4000+3 {
		t.Errorf("%d pages", used)
	}
}

func TestNothingIsShared(t *testing.T) {
	x := begin(t, 40)
	k, v := []byte("k"), []byte("v")
	Put(x, k, v)
	k[0], v[0] = 'z', 'z'
	Put(x, []byte("l"), []byte("w"))
	l, _ := Range(x, nil, nil)
	is(t, "Range", told(l), "k v, l w")
	_ = append(l[0].Key, "zzzzzzzzzzz"...)
	_ = append(l[0].Value, "zzzzzzzzzzz"...)
	is(t, "Range", told(l), "k v, l w")
	l[0].Key[0] = 'z'
	g, _, _ := Get(x, []byte("k"))
	g[0] = 'z'
	l, _ = Range(x, nil, nil)
	is(t, "Range", told(l), "k v, l w")
}

func TestCommitted(t *testing.T) {
	d, s := store(t, 400)
	x, _ := s.Begin()
	for i := range 500 {
		Put(x, fmt.Appendf(nil, "%d", i*i), bytes.Repeat([]byte{byte(i)}, i))
	}
	want, _ := Range(x, nil, nil)
	is(t, "Commit", x.Commit(), api.OK)
	d.Restart(nil)
	s, _ = pages.Open(d)
	x, _ = s.Begin()
	if l, code := Range(x, nil, nil); code != api.OK || !slices.EqualFunc(l, want, func(a, b Pair) bool { return bytes.Equal(a.Key, b.Key) && bytes.Equal(a.Value, b.Value) }) {
		t.Errorf("another tree, %d", code)
	}
}

// Of pages that are no tree's each call ends.
func TestOtherPages(t *testing.T) {
	inner := (&node{keys: [][]byte{[]byte("a"), []byte("b")}, vals: [][]byte{child(1), child(2)}}).bytes()
	r := rand.New(rand.NewSource(1))
	for range 300 {
		x := begin(t, 40)
		x.Alloc()
		x.Alloc()
		b := bytes.Clone(inner)
		for range r.Intn(4) {
			b[r.Intn(20)] = byte(r.Intn(256))
		}
		x.Write(1, b)
		if r.Intn(2) == 0 {
			b = bytes.Repeat([]byte{byte(r.Intn(5))}, api.Page)
		}
		x.Write(2, b)
		x.SetRoot(1 + r.Intn(2))
		Get(x, []byte("b"))
		Range(x, nil, nil)
		Put(x, []byte("b"), []byte("b"))
		Delete(x, []byte("b"))
	}
}

// A Put that needs two pages, of which one is there, takes none.
func TestOnePageTooFew(t *testing.T) {
	x := begin(t, 8)
	value := bytes.Repeat([]byte("v"), 1000)
	n := 0
	code := api.OK
	for code == api.OK {
		code = Put(x, fmt.Appendf(nil, "%d", n), value)
		if code == api.OK {
			n++
		}
	}
	is(t, "Put", []any{code, x.Left(), x.Root()}, []any{api.ErrFull, 1, 1})
	l, code := Range(x, nil, nil)
	is(t, "Range", []any{len(l), code}, []any{n, api.OK})
	is(t, "Put", []any{Put(x, []byte("0"), value[1:]), Put(x, []byte("00"), value)}, []any{api.OK, api.ErrFull})
	for i := range n {
		ok, code := Delete(x, fmt.Appendf(nil, "%d", i))
		is(t, "Delete", []any{ok, code}, []any{true, api.OK})
	}
	is(t, "all is free", []any{x.Left(), x.Root()}, []any{2, 0})
}
