package cursor_test

import (
	"bytes"
	"math"
	"math/rand"
	"slices"
	"testing"

	"steelyard/api"
	"steelyard/cursor"
)

// alike: are two lists of values the same? (An empty list of bytes may be nil or not.)
func alike(a, b []cursor.Val) bool {
	return slices.EqualFunc(a, b, func(x, y cursor.Val) bool { return x.N == y.N && bytes.Equal(x.B, y.B) })
}

// fill: so many bytes, none of which is 0.
func fill(n int) []byte { return bytes.Repeat([]byte{0xa5}, n) }

func TestRun(t *testing.T) {
	num2, take2, skip1, zero1, rest := cursor.Op{Kind: cursor.Num, Size: 2}, cursor.Op{Kind: cursor.Take, Size: 2}, cursor.Op{Kind: cursor.Skip, Size: 1}, cursor.Op{Kind: cursor.Zero, Size: 1}, cursor.Op{Kind: cursor.Rest}
	for _, c := range []struct {
		name string
		b    []byte
		l    []cursor.Op
		v    []cursor.Val
		at   int
		err  api.Errno
	}{
		{"example", []byte{1, 2, 3, 0}, []cursor.Op{num2, skip1, zero1}, []cursor.Val{{N: 258}, {}, {}}, 4, api.OK},
		{"example short", []byte{1}, []cursor.Op{num2}, nil, 0, api.ErrShort},
		{"nothing", nil, nil, nil, 0, api.OK},
		{"bytes behind the last piece", []byte{1, 2, 3}, []cursor.Op{num2}, []cursor.Val{{N: 258}}, 2, api.OK},
		{"bytes and no pieces", []byte{1, 2, 3}, nil, nil, 0, api.OK},
		{"take", []byte{1, 2, 3}, []cursor.Op{take2}, []cursor.Val{{B: []byte{1, 2}}}, 2, api.OK},
		{"take of none", nil, []cursor.Op{{Kind: cursor.Take}}, []cursor.Val{{}}, 0, api.OK},
		{"skip has neither", []byte{1, 2}, []cursor.Op{skip1, skip1}, []cursor.Val{{}, {}}, 2, api.OK},
		{"rest", []byte{1, 2, 3}, []cursor.Op{skip1, rest}, []cursor.Val{{}, {B: []byte{2, 3}}}, 3, api.OK},
		{"rest of none", []byte{1}, []cursor.Op{skip1, rest, rest}, []cursor.Val{{}, {}, {}}, 1, api.OK},
		{"behind rest", []byte{1, 2}, []cursor.Op{rest, skip1}, []cursor.Val{{B: []byte{1, 2}}}, 2, api.ErrShort},
		{"rest with a size", []byte{1, 2}, []cursor.Op{skip1, {Kind: cursor.Rest, Size: 1}}, []cursor.Val{{}}, 1, api.ErrArg},
		{"rest with a size below 0", []byte{1, 2}, []cursor.Op{skip1, {Kind: cursor.Rest, Size: -1}}, []cursor.Val{{}}, 1, api.ErrArg},
		{"zero that is not 0", []byte{0, 1}, []cursor.Op{zero1, zero1, skip1}, []cursor.Val{{}}, 1, api.ErrForm},
		{"zero stands where it stood", []byte{7, 0, 1}, []cursor.Op{skip1, {Kind: cursor.Zero, Size: 2}}, []cursor.Val{{}}, 1, api.ErrForm},
		{"the first error", []byte{1, 2, 3, 4}, []cursor.Op{num2, {Kind: cursor.Num, Size: 9}, {Kind: cursor.Take, Size: 99}, skip1}, []cursor.Val{{N: 258}}, 2, api.ErrArg},
		{"short take", []byte{1, 2, 3}, []cursor.Op{take2, take2, skip1}, []cursor.Val{{B: []byte{1, 2}}}, 2, api.ErrShort},
		{"short skip", []byte{1}, []cursor.Op{{Kind: cursor.Skip, Size: math.MaxInt}}, nil, 0, api.ErrShort},
		{"short take of the greatest", []byte{1}, []cursor.Op{skip1, {Kind: cursor.Take, Size: math.MaxInt}}, []cursor.Val{{}}, 1, api.ErrShort},
	} {
		if v, at, err := cursor.Run(c.b, c.l); !alike(v, c.v) || at != c.at || err != c.err {
			t.Errorf("%s: Run = %v, %d, %d; want %v, %d, %d", c.name, v, at, err, c.v, c.at, c.err)
		}
	}
}

func TestRunOfPiecesThatCanNotBe(t *testing.T) {
	for _, o := range []cursor.Op{
		{Kind: -1}, {Kind: 5}, {Kind: 5, Size: 1}, {Kind: math.MinInt, Size: 1}, {Kind: math.MaxInt, Size: 1},
		{Kind: cursor.Num}, {Kind: cursor.Num, Size: -1}, {Kind: cursor.Num, Size: 9}, {Kind: cursor.Num, Size: math.MinInt}, {Kind: cursor.Num, Size: math.MaxInt},
		{Kind: cursor.Take, Size: -1}, {Kind: cursor.Take, Size: math.MinInt},
		{Kind: cursor.Skip, Size: -1}, {Kind: cursor.Skip, Size: math.MinInt},
		{Kind: cursor.Zero, Size: -1}, {Kind: cursor.Zero, Size: math.MinInt},
		{Kind: cursor.Rest, Size: 1}, {Kind: cursor.Rest, Size: math.MinInt}, {Kind: cursor.Rest, Size: math.MaxInt},
	} {
		l := []cursor.Op{{Kind: cursor.Num, Size: 1}, o, {Kind: cursor.Num, Size: 1}}
		if v, at, err := cursor.Run([]byte{7, 0, 0}, l); !alike(v, []cursor.Val{{N: 7}}) || at != 1 || err != api.ErrArg {
			t.Errorf("Run of %v = %v, %d, %d", o, v, at, err)
		}
		if b, err := cursor.Lay([]cursor.Val{{N: 7}, {}, {}}, l); b != nil || err != api.ErrArg {
			t.Errorf("Lay of %v = %v, %d", o, b, err)
		}
	}
}

func TestRunHasNoLimitOfPieces(t *testing.T) {
	l := slices.Repeat([]cursor.Op{{Kind: cursor.Num, Size: 1}}, api.MaxBytes+2)
	if v, at, err := cursor.Run(fill(len(l)), l); len(v) != len(l) || at != len(l) || err != api.OK {
		t.Errorf("Run of %d pieces: %d, %d, %d", len(l), len(v), at, err)
	}
}

func TestRunSharesNoMemory(t *testing.T) {
	given := []byte("abcdef")
	l := []cursor.Op{{Kind: cursor.Take, Size: 2}, {Kind: cursor.Take, Size: 2}, {Kind: cursor.Rest}}
	v, _, _ := cursor.Run(given, l)
	w, _, _ := cursor.Run(given, l)
	for i := range v {
		v[i].B[0] = '!'
		_ = append(v[i].B, "!!!!!!"...)
	}
	if string(given) != "abcdef" {
		t.Errorf("what was given is %q", given)
	}
	want := []cursor.Val{{B: []byte("ab")}, {B: []byte("cd")}, {B: []byte("ef")}}
	copy(given, "uvwxyz")
	if !alike(w, want) {
		t.Errorf("an answer is %v", w)
	}
	if !alike(v, []cursor.Val{{B: []byte("!b")}, {B: []byte("!d")}, {B: []byte("!f")}}) {
		t.Errorf("an answer is %v", v)
	}
}

func TestLay(t *testing.T) {
	for _, c := range []struct {
		name string
		v    []cursor.Val
		l    []cursor.Op
		b    string
	}{
		{"nothing", nil, nil, ""},
		{"empty lists", []cursor.Val{}, []cursor.Op{}, ""},
		{"numbers", []cursor.Val{{N: 258}, {N: 0xf1}, {}}, []cursor.Op{{Kind: cursor.Num, Size: 3}, {Kind: cursor.Num, Size: 1}, {Kind: cursor.Num, Size: 2}}, "\x00\x01\x02\xf1\x00\x00"},
		{"the greatest number", []cursor.Val{{N: math.MaxUint64}}, []cursor.Op{{Kind: cursor.Num, Size: 8}}, "\xff\xff\xff\xff\xff\xff\xff\xff"},
		{"a number of eight", []cursor.Val{{N: 0x0102030405060708}}, []cursor.Op{{Kind: cursor.Num, Size: 8}}, "\x01\x02\x03\x04\x05\x06\x07\x08"},
		{"a number with empty bytes", []cursor.Val{{N: 5, B: []byte{}}}, []cursor.Op{{Kind: cursor.Num, Size: 1}}, "\x05"},
		{"take", []cursor.Val{{B: []byte("ab")}, {}}, []cursor.Op{{Kind: cursor.Take, Size: 2}, {Kind: cursor.Take}}, "ab"},
		{"skip and zero", []cursor.Val{{N: 9}, {}, {}, {B: []byte{}}}, []cursor.Op{{Kind: cursor.Num, Size: 1}, {Kind: cursor.Skip, Size: 2}, {Kind: cursor.Zero, Size: 3}, {Kind: cursor.Skip}}, "\x09\x00\x00\x00\x00\x00"},
		{"rest", []cursor.Val{{B: []byte("abc")}}, []cursor.Op{{Kind: cursor.Rest}}, "abc"},
		{"rest of none", []cursor.Val{{}}, []cursor.Op{{Kind: cursor.Rest}}, ""},
		{"rest ahead of others", []cursor.Val{{B: []byte("abc")}, {N: 1}}, []cursor.Op{{Kind: cursor.Rest}, {Kind: cursor.Num, Size: 1}}, "abc\x01"},
	} {
		if b, err := cursor.Lay(c.v, c.l); string(b) != c.b || err != api.OK {
			t.Errorf("%s: Lay = %q, %d; want %q", c.name, b, err, c.b)
		}
	}
}

func TestLayOfValuesThatDoNotFit(t *testing.T) {
	for _, c := range []struct {
		name string
		v    cursor.Val
		o    cursor.Op
	}{
		{"num with bytes", cursor.Val{N: 1, B: []byte{1}}, cursor.Op{Kind: cursor.Num, Size: 1}},
		{"take of fewer", cursor.Val{B: []byte{1}}, cursor.Op{Kind: cursor.Take, Size: 2}},
		{"take of more", cursor.Val{B: []byte{1, 2, 3}}, cursor.Op{Kind: cursor.Take, Size: 2}},
		{"take of none", cursor.Val{}, cursor.Op{Kind: cursor.Take, Size: 1}},
		{"take of the greatest", cursor.Val{}, cursor.Op{Kind: cursor.Take, Size: math.MaxInt}},
		{"take with a number", cursor.Val{N: 1, B: []byte{1}}, cursor.Op{Kind: cursor.Take, Size: 1}},
		{"skip with a number", cursor.Val{N: 1}, cursor.Op{Kind: cursor.Skip, Size: 1}},
		{"skip with bytes", cursor.Val{B: []byte{0}}, cursor.Op{Kind: cursor.Skip, Size: 1}},
		{"zero with a number", cursor.Val{N: 1}, cursor.Op{Kind: cursor.Zero, Size: 1}},
		{"zero with bytes", cursor.Val{B: []byte{0}}, cursor.Op{Kind: cursor.Zero, Size: 1}},
		{"rest with a number", cursor.Val{N: 1, B: []byte{1}}, cursor.Op{Kind: cursor.Rest}},
	} {
		if b, err := cursor.Lay([]cursor.Val{c.v}, []cursor.Op{c.o}); b != nil || err != api.ErrArg {
			t.Errorf("%s: Lay = %v, %d", c.name, b, err)
		}
	}
	for size := 1; size < 8; size++ { // the first number that has a byte too many
		o := []cursor.Op{{Kind: cursor.Num, Size: size}}
		most := uint64(1)<<(8*size) - 1
		if b, err := cursor.Lay([]cursor.Val{{N: most}}, o); !bytes.Equal(b, bytes.Repeat([]byte{0xff}, size)) || err != api.OK {
			t.Errorf("Lay of %x in %d bytes = %v, %d", most, size, b, err)
		}
		for _, n := range []uint64{most + 1, math.MaxUint64} {
			if b, err := cursor.Lay([]cursor.Val{{N: n}}, o); b != nil || err != api.ErrArg {
				t.Errorf("Lay of %x in %d bytes = %v, %d", n, size, b, err)
			}
		}
	}
}

func TestLayOfLists(t *testing.T) {
	one := cursor.Op{Kind: cursor.Num, Size: 1}
	full := slices.Repeat([]cursor.Op{one}, api.MaxGrow)
	if b, err := cursor.Lay(make([]cursor.Val, api.MaxGrow), full); len(b) != api.MaxGrow || err != api.OK {
		t.Errorf("Lay of MaxGrow pieces: %d bytes, %d", len(b), err)
	}
	for _, values := range []int{0, 1, api.MaxGrow, api.MaxGrow + 1, api.MaxGrow + 2} { // ErrSize goes ahead of ErrArg
		if b, err := cursor.Lay(make([]cursor.Val, values), append(full[:api.MaxGrow:api.MaxGrow], one)); b != nil || err != api.ErrSize {
			t.Errorf("Lay of a piece above MaxGrow and %d values: %d bytes, %d", values, len(b), err)
		}
	}
	for _, c := range []struct{ values, pieces int }{{0, 1}, {1, 0}, {2, 1}, {1, 2}, {api.MaxGrow + 1, api.MaxGrow}} {
		if b, err := cursor.Lay(make([]cursor.Val, c.values), full[:c.pieces]); b != nil || err != api.ErrArg {
			t.Errorf("Lay of %d values by %d pieces: %v, %d", c.values, c.pieces, b, err)
		}
	}
}

func TestLayAtMaxBytes(t *testing.T) {
	for _, c := range []struct {
		name string
		v    cursor.Val
		o    cursor.Op
		size int
	}{
		{"num", cursor.Val{N: 1}, cursor.Op{Kind: cursor.Num, Size: 8}, 8},
		{"take", cursor.Val{B: fill(9)}, cursor.Op{Kind: cursor.Take, Size: 9}, 9},
		{"skip", cursor.Val{}, cursor.Op{Kind: cursor.Skip, Size: 10}, 10},
		{"zero", cursor.Val{}, cursor.Op{Kind: cursor.Zero, Size: 11}, 11},
		{"rest", cursor.Val{B: fill(12)}, cursor.Op{Kind: cursor.Rest}, 12},
		{"all by take", cursor.Val{B: fill(api.MaxBytes)}, cursor.Op{Kind: cursor.Take, Size: api.MaxBytes}, api.MaxBytes},
		{"all by rest", cursor.Val{B: fill(api.MaxBytes)}, cursor.Op{Kind: cursor.Rest}, api.MaxBytes},
		{"all by skip", cursor.Val{}, cursor.Op{Kind: cursor.Skip, Size: api.MaxBytes}, api.MaxBytes},
	} {
		for _, more := range []int{0, 1} {
			ahead := api.MaxBytes - c.size + more
			b, err := cursor.Lay([]cursor.Val{{}, c.v}, []cursor.Op{{Kind: cursor.Skip, Size: ahead}, c.o})
			if more == 0 && (len(b) != api.MaxBytes || err != api.OK) || more == 1 && (b != nil || err != api.ErrSize) {
				t.Errorf("%s behind %d bytes: %d bytes, %d", c.name, ahead, len(b), err)
			}
		}
	}
	for _, c := range []struct {
		name string
		v    []cursor.Val
		l    []cursor.Op
		err  api.Errno
	}{
		{"skip of the greatest", []cursor.Val{{N: 1}, {}}, []cursor.Op{{Kind: cursor.Num, Size: 1}, {Kind: cursor.Skip, Size: math.MaxInt}}, api.ErrSize},
		{"zero of the greatest", []cursor.Val{{N: 1}, {}}, []cursor.Op{{Kind: cursor.Num, Size: 1}, {Kind: cursor.Zero, Size: math.MaxInt}}, api.ErrSize},
		{"rest of more", []cursor.Val{{B: fill(api.MaxBytes + 1)}}, []cursor.Op{{Kind: cursor.Rest}}, api.ErrSize},
		{"take of more", []cursor.Val{{B: fill(api.MaxBytes + 1)}}, []cursor.Op{{Kind: cursor.Take, Size: api.MaxBytes + 1}}, api.ErrSize},
		{"ErrSize of the first piece, ErrArg of the second", []cursor.Val{{}, {N: 1}}, []cursor.Op{{Kind: cursor.Skip, Size: api.MaxBytes + 1}, {Kind: cursor.Skip}}, api.ErrSize},
		{"ErrArg of the first piece, ErrSize of the second", []cursor.Val{{N: 1}, {}}, []cursor.Op{{Kind: cursor.Skip}, {Kind: cursor.Skip, Size: api.MaxBytes + 1}}, api.ErrArg},
		{"both of one piece", []cursor.Val{{N: 1}}, []cursor.Op{{Kind: cursor.Skip, Size: api.MaxBytes + 1}}, api.ErrArg},
		{"pieces of no bytes behind all", []cursor.Val{{}, {}, {}}, []cursor.Op{{Kind: cursor.Skip, Size: api.MaxBytes}, {Kind: cursor.Take}, {Kind: cursor.Rest}}, api.OK},
	} {
		if b, err := cursor.Lay(c.v, c.l); err != c.err || err != api.OK && b != nil {
			t.Errorf("%s: %d bytes, %d; want %d", c.name, len(b), err, c.err)
		}
	}
}

func TestLaySharesNoMemory(t *testing.T) {
	v := []cursor.Val{{B: []byte("abc")}}
	l := []cursor.Op{{Kind: cursor.Take, Size: 3}}
	b, _ := cursor.Lay(v, l)
	c, _ := cursor.Lay(v, l)
	b[0] = '!'
	_ = append(b, '!')
	if string(v[0].B) != "abc" || string(c) != "abc" {
		t.Errorf("what was given is %q, another answer %q", v[0].B, c)
	}
	v[0].B[1] = '?'
	if string(c) != "abc" {
		t.Errorf("an answer is %q", c)
	}
}

// written: values with pieces that they fit, the last of which may be Rest.
func written(rnd *rand.Rand) ([]cursor.Val, []cursor.Op) {
	var v []cursor.Val
	var l []cursor.Op
	for range rnd.Intn(8) {
		o := cursor.Op{Kind: rnd.Intn(4), Size: rnd.Intn(9)}
		var x cursor.Val
		switch o.Kind {
		case cursor.Num:
			o.Size = max(o.Size, 1)
			x.N = rnd.Uint64() >> (64 - 8*o.Size)
		case cursor.Take:
			x.B = make([]byte, o.Size)
			rnd.Read(x.B)
		}
		v, l = append(v, x), append(l, o)
	}
	if rnd.Intn(2) == 0 {
		b := make([]byte, rnd.Intn(5))
		rnd.Read(b)
		v, l = append(v, cursor.Val{B: b}), append(l, cursor.Op{Kind: cursor.Rest})
	}
	return v, l
}

// TestAsItWasWritten is P1.4, and of bytes that are longer, or cut, P1.5.
func TestAsItWasWritten(t *testing.T) {
	rnd := rand.New(rand.NewSource(1))
	for range 2000 {
		v, l := written(rnd)
		b, err := cursor.Lay(v, l)
		if err != api.OK {
			t.Fatalf("Lay(%v, %v): %d", v, l, err)
		}
		got, at, err := cursor.Run(b, l)
		if !alike(got, v) || at != len(b) || err != api.OK {
			t.Fatalf("Run(%v, %v) = %v, %d, %d; want %v", b, l, got, at, err, v)
		}
		rest := len(l) > 0 && l[len(l)-1].Kind == cursor.Rest
		longer(t, b, l, v, rest)
		cut(t, b, l, v, rest)
	}
}

func longer(t *testing.T, b []byte, l []cursor.Op, v []cursor.Val, rest bool) {
	t.Helper()
	more := append(bytes.Clone(b), 1, 2, 3)
	want, end := slices.Clone(v), len(b)
	if rest {
		last := len(want) - 1
		want[last].B = append(bytes.Clone(want[last].B), 1, 2, 3)
		end = len(more)
	}
	if got, at, err := cursor.Run(more, l); !alike(got, want) || at != end || err != api.OK {
		t.Fatalf("Run(%v, %v) = %v, %d, %d; want %v, %d", more, l, got, at, err, want, end)
	}
}

func cut(t *testing.T, b []byte, l []cursor.Op, v []cursor.Val, rest bool) {
	t.Helper()
	head := len(b)
	if rest {
		head -= len(v[len(v)-1].B)
	}
	for n := range b {
		got, at, err := cursor.Run(b[:n], l)
		if n < head && (err != api.ErrShort || at > n || len(got) >= len(v) || !alike(got, v[:len(got)])) {
			t.Fatalf("Run(%v, %v) = %v, %d, %d", b[:n], l, got, at, err)
		}
		if n >= head && (err != api.OK || at != n || len(got) != len(v) || !bytes.Equal(got[len(got)-1].B, b[head:n])) {
			t.Fatalf("Run(%v, %v) = %v, %d, %d", b[:n], l, got, at, err)
		}
	}
}

// FuzzRunLay: whatever pieces and bytes there are, nothing panics; what Run reads Lay writes as it was, but that what was passed over is 0.
func FuzzRunLay(f *testing.F) {
	f.Add([]byte{1, 2, 3, 0}, []byte{0, 2, 2, 1, 3, 1})
	f.Add([]byte{1, 2, 3, 0, 5}, []byte{1, 2, 2, 1, 4, 0})
	f.Add([]byte{1, 2, 3, 0, 5}, []byte{4, 0, 2, 0, 4, 0})
	f.Add([]byte{1}, []byte{0, 0xff})
	f.Add([]byte{1}, []byte{0xfe, 1})
	f.Fuzz(func(t *testing.T, b, pieces []byte) {
		var l []cursor.Op
		for ; len(pieces) >= 2; pieces = pieces[2:] {
			l = append(l, cursor.Op{Kind: int(int8(pieces[0])), Size: int(int8(pieces[1]))})
		}
		v, at, err := cursor.Run(b, l)
		if at < 0 || at > len(b) || len(v) > len(l) || err == api.OK && len(v) != len(l) {
			t.Fatalf("Run(%v, %v) = %v, %d, %d", b, l, v, at, err)
		}
		if at > api.MaxBytes || len(v) > api.MaxGrow {
			return
		}
		back, err := cursor.Lay(v, l[:len(v)])
		if err != api.OK || len(back) != at {
			t.Fatalf("Lay(%v, %v) = %v, %d", v, l[:len(v)], back, err)
		}
		place := 0
		for i, o := range l[:len(v)] {
			size := o.Size
			if o.Kind == cursor.Rest {
				size = len(v[i].B)
			}
			if want := b[place : place+size]; o.Kind != cursor.Skip && !bytes.Equal(back[place:place+size], want) {
				t.Fatalf("Lay(%v, %v) = %v of %v", v, l, back, b)
			}
			place += size
		}
	})
}
