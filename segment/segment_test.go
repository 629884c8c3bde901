package segment

import (
	"bytes"
	"math/rand"
	"reflect"
	"slices"
	"strings"
	"testing"

	"tideline/api"
)

func num(i int64) api.Value   { return api.Value{Kind: api.Int, Int: i} }
func text(s string) api.Value { return api.Value{Kind: api.Text, Text: s} }
func truth(i int64) api.Value { return api.Value{Kind: api.Bool, Int: i} }

const example = "\x02\x02\x00\x14\x02\x00\x28\x05\x00\x01\x14\x01\x00"

func TestMake(t *testing.T) {
	one := []uint8{api.Int}
	p, code := Make(one, [][]api.Value{{num(10)}, {num(20)}})
	if code != api.OK || len(p) != 1 || string(p[0]) != example {
		t.Errorf("Make = %x, %d", p, code)
	}
	for _, x := range []struct {
		types []uint8
		rows  [][]api.Value
		code  api.Errno
	}{
		{[]uint8{api.Null}, nil, api.ErrArg},
		{[]uint8{4}, nil, api.ErrArg},
		{one, [][]api.Value{{num(1)}, {truth(1)}}, api.ErrArg},
		{one, [][]api.Value{{}}, api.ErrArg},
		{one, [][]api.Value{{{Kind: api.Int, Text: "x"}}}, api.ErrArg},
		{nil, make([][]api.Value, api.MaxRows+1), api.ErrLong},
		{one, make([][]api.Value, api.MaxRows+1), api.ErrArg},
		{nil, make([][]api.Value, api.MaxRows), api.OK},
	} {
		p, code := Make(x.types, x.rows)
		if code != x.code || code != api.OK && p != nil {
			t.Errorf("Make(%v): %d pieces, %d", x.types, len(p), code)
		}
	}
}

func TestOpenErrors(t *testing.T) {
	one := []uint8{api.Int}
	full := strings.Repeat("\x00", 1000)
	for _, x := range []struct {
		types []uint8
		p     []string
		code  api.Errno
	}{
		{one, []string{example}, api.OK},
		{one, nil, api.ErrForm},
		{one, []string{example, ""}, api.ErrForm},
		{one, []string{""}, api.ErrForm},
		{one, []string{full + "\x00"}, api.ErrForm},
		{one, []string{example[:4], example[4:]}, api.ErrForm},
		{[]uint8{7}, nil, api.ErrArg},
		{one, []string{example[:12]}, api.ErrShort},
		{one, []string{example[:7]}, api.ErrShort},
		{one, []string{example[:5]}, api.ErrShort},
		{one, []string{"\x80"}, api.ErrShort},
		{one, []string{"\x80\x00"}, api.ErrForm},
		{one, []string{"\x81\x80\x04" + example[1:]}, api.ErrForm}, // 65537 rows
		{one, []string{example + "\x00"}, api.ErrForm},
		{one, []string{"\x02\x02\x00\x16" + example[4:]}, api.ErrForm},                        // another least one
		{one, []string{"\x02\x02\x00\x14\x02\x00\x26" + example[7:]}, api.ErrForm},            // another greatest one
		{one, []string{"\x02\x01\x00" + example[4:]}, api.ErrShort},                           // within the least ones
		{one, []string{"\x02\x03\x00\x14\x00" + example[4:]}, api.ErrForm},                    // behind them
		{one, []string{"\x03" + example[1:]}, api.ErrShort},                                   // a number is missing
		{one, []string{"\x01" + example[1:]}, api.ErrForm},                                    // one too many
		{one, []string{example[:7] + "\x06\x00\x01\x14\x01\x00\x00"}, api.ErrForm},            // behind a column
		{one, []string{"\x02\xff\xff\xff\xff\xff\xff\xff\xff\xff\x01\x00\x14"}, api.ErrShort}, // a size beyond all
		{nil, []string{"\x05\x00\x00"}, api.OK},
		{nil, []string{"\x05\x00"}, api.ErrShort},
	} {
		var p [][]byte
		for _, s := range x.p {
			p = append(p, []byte(s))
		}
		rows, code := Open(x.types, p)
		if code != x.code || code != api.OK && rows != nil {
			t.Errorf("Open(%x) = %v, %d", x.p, rows, code)
		}
		least, greatest, code := Bounds(x.types, p)
		if code != x.code || code != api.OK && (least != nil || greatest != nil) {
			t.Errorf("Bounds(%x) = %v, %v, %d", x.p, least, greatest, code)
		}
	}
}

func TestBounds(t *testing.T) {
	types := []uint8{api.Int, api.Text, api.Bool}
	p, _ := Make(types, [][]api.Value{{num(3), text("b"), {}}, {num(-1), {}, {}}, {{}, text("a"), {}}})
	least, greatest, code := Bounds(types, p)
	if code != api.OK || !slices.Equal(least, []api.Value{num(-1), text("a"), {}}) || !slices.Equal(greatest, []api.Value{num(3), text("b"), {}}) {
		t.Errorf("Bounds = %v, %v, %d", least, greatest, code)
	}
}

func random(r *rand.Rand, kind uint8) api.Value {
	if r.Intn(5) == 0 {
		return api.Value{}
	}
	switch kind {
	case api.Bool:
		return truth(int64(r.Intn(2)))
	case api.Int:
		return num(int64(r.Uint64() >> uint(r.Intn(64))))
	}
	return text(strings.Repeat("xyz", r.Intn(9)))
}

func TestSegmentsAndPieces(t *testing.T) {
	r := rand.New(rand.NewSource(2))
	for range 300 {
		types := make([]uint8, r.Intn(5))
		for i := range types {
			types[i] = uint8(1 + r.Intn(3))
		}
		rows := make([][]api.Value, r.Intn(1<<uint(r.Intn(10))))
		for i := range rows {
			for _, k := range types {
				rows[i] = append(rows[i], random(r, k))
			}
		}
		p, code := Make(types, rows)
		if code != api.OK {
			t.Fatalf("Make: %d", code)
		}
		for i, b := range p {
			if len(b) > 1000 || len(b) == 0 || i < len(p)-1 && len(b) != 1000 {
				t.Fatalf("piece %d has %d bytes", i, len(b))
			}
		}
		g, code := Open(types, p)
		if code != api.OK || len(g) != len(rows) {
			t.Fatalf("Open: %d rows, %d", len(g), code)
		}
		for i := range g {
			if !slices.Equal(g[i], rows[i]) {
				t.Fatalf("row %d is %v, not %v", i, g[i], rows[i])
			}
		}
		// Whatever is opened is made as just these pieces.
		k := r.Intn(len(p))
		p[k][r.Intn(len(p[k]))] = byte(r.Intn(4))
		if g, code := Open(types, p); code == api.OK {
			if q, _ := Make(types, g); !reflect.DeepEqual(p, q) {
				t.Fatal("other bytes are opened")
			}
		}
	}
}

func TestPiecesShareNothing(t *testing.T) {
	l := make([][]api.Value, 1000)
	for i := range l {
		l[i] = []api.Value{num(int64(i) * int64(i) * int64(i))}
	}
	p, _ := Make([]uint8{api.Int}, l)
	if len(p) < 2 {
		t.Fatal("one piece")
	}
	was := bytes.Clone(p[1])
	_ = append(p[0], 77)
	if !bytes.Equal(p[1], was) {
		t.Error("pieces share their room")
	}
}

func TestPiecesEndWhereTheBytesDo(t *testing.T) {
	exact := 0
	for n := range 1100 {
		p, _ := Make([]uint8{api.Text}, [][]api.Value{{text(strings.Repeat("a", n))}})
		last := len(p[len(p)-1])
		if last == 0 || last > 1000 {
			t.Fatalf("%d bytes in the last piece", last)
		}
		if last == 1000 {
			exact++
		}
		if rows, code := Open([]uint8{api.Text}, p); code != api.OK || len(rows) != 1 {
			t.Fatalf("Open: %d", code)
		}
	}
	if exact == 0 {
		t.Error("no last piece is full")
	}
}

func TestAsManyRowsAsMayBe(t *testing.T) {
	p, code := Make(nil, make([][]api.Value, api.MaxRows))
	if code != api.OK {
		t.Fatal(code)
	}
	if rows, code := Open(nil, p); code != api.OK || len(rows) != api.MaxRows {
		t.Errorf("%d rows, %d", len(rows), code)
	}
}
