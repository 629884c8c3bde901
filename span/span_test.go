package span

import (
	"math"
	"testing"

	"tideline/api"
)

const least, most = api.MinTime - api.MaxEvery, api.MaxTime + api.MaxEvery

// numbers are times, and others, at and about the ends.
func numbers() []int64 {
	l := []int64{math.MinInt64, math.MaxInt64, math.MinInt64 + 1, -1000003, 1000003}
	for _, m := range []int64{least, api.MinTime, 0, api.MaxTime, most, api.MaxEvery, -api.MaxEvery} {
		for d := int64(-12); d <= 12; d++ {
			l = append(l, m+d)
		}
	}
	return l
}

func widths() []int64 {
	return []int64{1, 2, 5, 7, 10, 1000, api.MaxEvery - 1, api.MaxEvery, 0, -1, -5, api.MaxEvery + 1, math.MinInt64, math.MaxInt64}
}

func TestTimeWidth(t *testing.T) {
	for _, n := range numbers() {
		if Time(n) != (n >= -1<<62 && n < 1<<62) {
			t.Errorf("Time(%d)", n)
		}
		if Width(n) != (n >= 1 && n <= 1<<40) {
			t.Errorf("Width(%d)", n)
		}
	}
	for _, n := range []int64{1, 5, api.MaxEvery} {
		if !Width(n) {
			t.Errorf("Width(%d)", n)
		}
	}
	for _, n := range []int64{0, -1, api.MaxEvery + 1, math.MinInt64, math.MaxInt64} {
		if Width(n) {
			t.Errorf("Width(%d)", n)
		}
	}
}

func TestFloorCeilBucket(t *testing.T) {
	for _, n := range widths() {
		for _, x := range numbers() {
			want := api.OK
			if n < 1 || n > api.MaxEvery {
				want = api.ErrArg
			} else if x < least || x > most {
				want = api.ErrRange
			}
			f, code1 := Floor(x, n)
			c, code2 := Ceil(x, n)
			b, code3 := Bucket(x, n)
			if code1 != want || code2 != want || code3 != want {
				t.Fatalf("%d, %d: %d, %d, %d, not %d", x, n, code1, code2, code3, want)
			}
			if want != api.OK {
				if f != 0 || c != 0 || b != (api.Span{}) {
					t.Fatalf("%d, %d: results beside an error", x, n)
				}
				continue
			}
			if f%n != 0 || f > x || x-f >= n || c%n != 0 || c < x || c-x >= n {
				t.Fatalf("%d, %d: floor %d, ceiling %d", x, n, f, c)
			}
			if b != (api.Span{From: f, To: f + n}) || !Has(b, x) || Has(b, f-1) || Has(b, f+n) {
				t.Fatalf("%d, %d: bucket %v", x, n, b)
			}
		}
	}
	for _, x := range []struct{ t, floor, ceil int64 }{{7, 5, 10}, {-7, -10, -5}, {5, 5, 5}, {0, 0, 0}, {-1, -5, 0}} {
		f, _ := Floor(x.t, 5)
		c, _ := Ceil(x.t, 5)
		if f != x.floor || c != x.ceil {
			t.Errorf("%d: %d, %d", x.t, f, c)
		}
	}
}

func TestOutIn(t *testing.T) {
	for _, x := range []struct {
		s       api.Span
		n       int64
		out, in api.Span
		code    api.Errno
	}{
		{api.Span{From: 3, To: 12}, 5, api.Span{From: 0, To: 15}, api.Span{From: 5, To: 10}, api.OK},
		{api.Span{From: 3, To: 9}, 5, api.Span{From: 0, To: 10}, api.Span{}, api.OK},
		{api.Span{From: -3, To: 6}, 5, api.Span{From: -5, To: 10}, api.Span{From: 0, To: 5}, api.OK},
		{api.Span{From: 5, To: 10}, 5, api.Span{From: 5, To: 10}, api.Span{From: 5, To: 10}, api.OK},
		{api.Span{From: 9, To: 9}, 5, api.Span{}, api.Span{}, api.OK},
		{api.Span{From: 12, To: 3}, 5, api.Span{}, api.Span{}, api.OK},
		{api.Span{From: 1, To: 9}, 0, api.Span{}, api.Span{}, api.ErrArg},
		{api.Span{From: math.MinInt64, To: 9}, 0, api.Span{}, api.Span{}, api.ErrArg},
		{api.Span{From: least - 1, To: 9}, 5, api.Span{}, api.Span{}, api.ErrRange},
		{api.Span{From: 9, To: most + 1}, 5, api.Span{}, api.Span{}, api.ErrRange},
		{api.Span{From: most + 1, To: 0}, 5, api.Span{}, api.Span{}, api.ErrRange},
		{api.Span{From: least, To: most}, 1, api.Span{From: least, To: most}, api.Span{From: least, To: most}, api.OK},
	} {
		out, code1 := Out(x.s, x.n)
		in, code2 := In(x.s, x.n)
		if out != x.out || in != x.in || code1 != x.code || code2 != x.code {
			t.Errorf("%v, %d: %v, %d; %v, %d", x.s, x.n, out, code1, in, code2)
		}
	}
	// Out is the least that has the span, In the greatest that it has.
	for _, n := range []int64{1, 2, 3, 5, 8} {
		for from := int64(-12); from < 12; from++ {
			for to := from + 1; to < 12; to++ {
				s := api.Span{From: from, To: to}
				out, _ := Out(s, n)
				in, _ := In(s, n)
				for x := int64(-30); x < 30; x++ {
					b, _ := Bucket(x, n)
					if meets := And(b, s) != (api.Span{}); Has(out, x) != meets {
						t.Fatalf("Out(%v, %d) = %v", s, n, out)
					}
					if within := And(b, s) == b; Has(in, x) != within {
						t.Fatalf("In(%v, %d) = %v", s, n, in)
					}
				}
			}
		}
	}
}

func TestWiderBucketsAreWhole(t *testing.T) {
	for x := int64(-50); x < 50; x++ {
		a, _ := Bucket(x, 4)
		b, _ := Bucket(x, 12)
		if And(a, b) != a {
			t.Fatalf("%d: %v, %v", x, a, b)
		}
	}
}

func TestAndEmptyHas(t *testing.T) {
	for _, x := range []struct{ a, b, want api.Span }{
		{api.Span{From: 0, To: 5}, api.Span{From: 3, To: 9}, api.Span{From: 3, To: 5}},
		{api.Span{From: 0, To: 3}, api.Span{From: 3, To: 9}, api.Span{}},
		{api.Span{From: 5, To: 0}, api.Span{From: 3, To: 9}, api.Span{}},
		{api.Span{From: math.MinInt64, To: math.MaxInt64}, api.Span{From: -3, To: 9}, api.Span{From: -3, To: 9}},
	} {
		if g := And(x.a, x.b); g != x.want {
			t.Errorf("And(%v, %v) = %v", x.a, x.b, g)
		}
		if g := And(x.b, x.a); g != x.want {
			t.Errorf("And(%v, %v) = %v", x.b, x.a, g)
		}
	}
	if !Empty(api.Span{}) || !Empty(api.Span{From: 3, To: 3}) || !Empty(api.Span{From: math.MaxInt64, To: math.MinInt64}) || Empty(api.Span{From: math.MinInt64, To: math.MaxInt64}) || Empty(api.Span{From: 3, To: 4}) {
		t.Error("Empty")
	}
	s := api.Span{From: 3, To: 5}
	if Has(s, 2) || !Has(s, 3) || !Has(s, 4) || Has(s, 5) || Has(api.Span{From: 5, To: 3}, 4) {
		t.Error("Has")
	}
}
