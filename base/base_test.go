package base

import (
	"fmt"
	"math/rand"
	"sort"
	"strings"
	"testing"

	"tideline/api"
	"tideline/disk"
	"tideline/tree"
)

func is(t *testing.T, what string, got, want any) {
	t.Helper()
	if fmt.Sprint(got) != fmt.Sprint(want) {
		t.Fatalf("%s: %v, not %v", what, got, want)
	}
}

func fresh(t *testing.T, n int) (*disk.Disk, *Base) {
	t.Helper()
	d, _ := disk.New(n)
	return d, open(t, d)
}

func open(t *testing.T, d *disk.Disk) *Base {
	t.Helper()
	b, code := Open(d)
	is(t, "Open", code, api.OK)
	return b
}

func told(l []tree.Pair) string {
	var s []string
	for _, p := range l {
		s = append(s, string(p.Key)+" "+string(p.Value))
	}
	return strings.Join(s, ", ")
}

func all(t *testing.T, b *Base) string {
	t.Helper()
	l, code := b.Range(nil, nil)
	is(t, "Range", code, api.OK)
	return told(l)
}

func put(b *Base, k, v string) api.Errno { return b.Put([]byte(k), []byte(v)) }

func TestExamples(t *testing.T) {
	d, b := fresh(t, 12)
	is(t, "Put", put(b, "a", "1"), api.OK)
	v, ok, code := b.Get([]byte("a"))
	is(t, "Get", []any{string(v), ok, code}, []any{"1", true, api.OK})
	b.Abort()
	v, ok, code = b.Get([]byte("a"))
	is(t, "Get", []any{string(v), ok, code}, []any{"", false, api.OK})
	is(t, "Put", put(b, "a", "1"), api.OK)
	is(t, "Commit", b.Commit(), api.OK)
	is(t, "Put", put(b, "b", "2"), api.OK)
	is(t, "Range", all(t, b), "a 1, b 2")
	is(t, "opened anew", all(t, open(t, d)), "a 1")
	is(t, "Put", put(b, "", "1"), api.ErrArg)
	is(t, "Put", put(b, strings.Repeat("k", 257), "1"), api.ErrLong)
	gone, code := b.Delete([]byte("a"))
	is(t, "Delete", []any{gone, code, all(t, b)}, []any{true, api.OK, "b 2"})
	gone, code = b.Delete([]byte("a"))
	is(t, "Delete", []any{gone, code}, []any{false, api.OK})
	l, _ := b.Range([]byte("b"), []byte("c"))
	is(t, "Range", told(l), "b 2")
}

func TestErrors(t *testing.T) {
	for _, n := range []int{1, 5} {
		d, _ := disk.New(n)
		if b, code := Open(d); b != nil || code != api.ErrArg {
			t.Errorf("Open of %d: %d", n, code)
		}
	}
	if b, code := Open(nil); b != nil || code != api.ErrNil {
		t.Error("no disk")
	}
	errors := func(b *Base, want api.Errno, dead bool) {
		t.Helper()
		v, ok, c1 := b.Get([]byte("a"))
		gone, c2 := b.Delete([]byte("a"))
		l, c3 := b.Range(nil, nil)
		is(t, "errors", []any{v, ok, c1, gone, c2, l, c3, put(b, "", ""), b.Commit(), b.Dead()}, []any{[]byte(nil), false, want, false, want, []tree.Pair(nil), want, want, want, dead})
		b.Abort()
	}
	errors(nil, api.ErrNil, false)
	d, b := fresh(t, 12)
	put(b, "a", "1")
	b.Commit()
	d.Kill()
	if _, code := Open(d); code != api.ErrDead {
		t.Error("no power")
	}
	errors(b, api.ErrDead, true)
	d.Restart(nil)
	b = open(t, d)
	put(b, "b", "2")
	d.Fuse(0)
	is(t, "Commit", b.Commit(), api.ErrDead)
	d.Restart(nil)
	errors(b, api.ErrDead, true)
	is(t, "Range", all(t, open(t, d)), "a 1")
	for at := range 12 {
		d.Write(at, []byte(strings.Repeat("x", api.Page)))
	}
	if _, code := Open(d); code != api.ErrBroken {
		t.Errorf("another disk: %d", code)
	}
}

func TestNothingIsWrittenIfNoneBegan(t *testing.T) {
	d, b := fresh(t, 12)
	d.Fuse(0)
	is(t, "Commit", b.Commit(), api.OK)
	b.Abort()
	is(t, "Commit", b.Commit(), api.OK)
}

func TestFull(t *testing.T) {
	_, b := fresh(t, 12)
	code, n := api.OK, 0
	for code == api.OK {
		code = put(b, fmt.Sprint(n), strings.Repeat("v", 1000))
		n++
	}
	is(t, "Put", code, api.ErrFull)
	l, _ := b.Range(nil, nil)
	is(t, "Range", len(l), n-1)
	is(t, "Commit", b.Commit(), api.OK)
}

func image(m map[string]string) string {
	var l []string
	for k, v := range m {
		l = append(l, k+" "+v)
	}
	sort.Strings(l)
	return strings.Join(l, ", ")
}

// Whenever the power goes, all that was committed is there, and perhaps the transaction under way.
func TestPower(t *testing.T) {
	r := rand.New(rand.NewSource(1))
	d, b := fresh(t, 60)
	lasts := map[string]string{}
	for range 300 {
		d.Fuse(r.Intn(40))
		for code := api.OK; code == api.OK; {
			m := map[string]string{}
			for k, v := range lasts {
				m[k] = v
			}
			for range r.Intn(20) {
				k, v := string(byte('a'+r.Intn(26))), strings.Repeat("v", r.Intn(1000))
				if r.Intn(3) == 0 {
					_, want := m[k]
					gone, _ := b.Delete([]byte(k))
					is(t, "Delete", gone, want)
					delete(m, k)
				} else if put(b, k, v) == api.OK {
					m[k] = v
				}
			}
			is(t, "Range", all(t, b), image(m))
			if r.Intn(4) == 0 {
				b.Abort()
				is(t, "Range", all(t, b), image(lasts))
				continue
			}
			code = b.Commit()
			if code == api.OK {
				lasts = m
				continue
			}
			is(t, "Commit", code, api.ErrDead)
			d.Restart([]int{r.Intn(4097), r.Intn(3) - 1, r.Intn(4097), r.Intn(3) - 1, -1})
			b = open(t, d)
			g := all(t, b)
			if g == image(m) {
				lasts = m
			}
			is(t, "what lasts", g, image(lasts))
		}
	}
}
