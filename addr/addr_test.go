package addr_test

import (
	"bytes"
	"math"
	"math/rand"
	"slices"
	"strconv"
	"strings"
	"testing"

	"steelyard/addr"
	"steelyard/api"
)

// four, six: an address of these bytes, with 0 behind them.
func four(b ...byte) api.Addr { return fill(false, b) }
func six(b ...byte) api.Addr  { return fill(true, b) }

func fill(v6 bool, b []byte) api.Addr {
	a := api.Addr{V6: v6}
	copy(a.B[:], b)
	return a
}

// bits: all bits of an address as a text of 0 and 1.
func bits(a api.Addr) string {
	s := ""
	for _, x := range a.B[:size(a)] {
		n := strconv.FormatUint(uint64(x), 2)
		s += strings.Repeat("0", 8-len(n)) + n
	}
	return s
}

func size(a api.Addr) int {
	if a.V6 {
		return 16
	}
	return 4
}

// ofBits: the address of a text of 32 or 128 of 0 and 1.
func ofBits(s string) api.Addr {
	a := api.Addr{V6: len(s) == 128}
	for i := 0; i < len(s); i += 8 {
		n, _ := strconv.ParseUint(s[i:i+8], 2, 8)
		a.B[i/8] = byte(n)
	}
	return a
}

// some: an address by chance that can be, often one of edges.
func some(rnd *rand.Rand) api.Addr {
	a := api.Addr{V6: rnd.Intn(2) == 0}
	for i := range size(a) {
		a.B[i] = [...]byte{0, 1, 0x80, 0xff, byte(rnd.Intn(256))}[rnd.Intn(5)]
	}
	return a
}

// wrong: addresses that can't be.
func wrong() []api.Addr {
	var l []api.Addr
	for i := 4; i < 16; i++ {
		for _, x := range []byte{1, 0x80, 0xff} {
			a := four(1, 2, 3, 4)
			a.B[i] = x
			l = append(l, a)
		}
	}
	return l
}

func TestOf(t *testing.T) {
	for _, c := range []struct {
		b    []byte
		want api.Addr
	}{
		{[]byte{10, 1, 2, 3}, four(10, 1, 2, 3)},
		{make([]byte, 4), four()},
		{[]byte{255, 255, 255, 255}, four(255, 255, 255, 255)},
		{make([]byte, 16), six()},
		{[]byte{0xfd, 0, 2, 3, 4, 5, 6, 7, 8, 9, 10, 11, 12, 13, 14, 15}, six(0xfd, 0, 2, 3, 4, 5, 6, 7, 8, 9, 10, 11, 12, 13, 14, 15)},
	} {
		if a, e := addr.Of(c.b); a != c.want || e != api.OK {
			t.Errorf("Of(%v) = %v, %d", c.b, a, e)
		}
	}
	for n := range 40 {
		a, e := addr.Of(bytes.Repeat([]byte{7}, n))
		if n != 4 && n != 16 && (e != api.ErrSize || a != api.Addr{}) {
			t.Errorf("Of of %d bytes = %v, %d", n, a, e)
		}
	}
	for _, b := range [][]byte{nil, {}, make([]byte, api.MaxBytes+1)} {
		if a, e := addr.Of(b); e != api.ErrSize || (a != api.Addr{}) {
			t.Errorf("Of of %d bytes = %v, %d", len(b), a, e)
		}
	}
}

func TestBytes(t *testing.T) {
	for _, c := range []struct {
		a    api.Addr
		want []byte
	}{
		{four(10, 1, 2, 3), []byte{10, 1, 2, 3}},
		{four(), []byte{0, 0, 0, 0}},
		{six(), make([]byte, 16)},
		{six(1, 2, 3, 4, 5, 6, 7, 8, 9, 10, 11, 12, 13, 14, 15, 16), []byte{1, 2, 3, 4, 5, 6, 7, 8, 9, 10, 11, 12, 13, 14, 15, 16}},
	} {
		if b, e := addr.Bytes(c.a); !bytes.Equal(b, c.want) || e != api.OK {
			t.Errorf("Bytes(%v) = %v, %d", c.a, b, e)
		}
	}
	for _, a := range wrong() {
		if b, e := addr.Bytes(a); len(b) != 0 || e != api.ErrArg {
			t.Errorf("Bytes(%v) = %v, %d", a, b, e)
		}
	}
}

func TestBytesSharesNoMemory(t *testing.T) {
	a := four(1, 2, 3, 4)
	b, _ := addr.Bytes(a)
	c, _ := addr.Bytes(a)
	_ = append(b, 9, 9)
	b[0] = 9
	if !bytes.Equal(c, []byte{1, 2, 3, 4}) || a != four(1, 2, 3, 4) {
		t.Errorf("%v, %v", c, a)
	}
	given := []byte{1, 2, 3, 4}
	x, _ := addr.Of(given)
	given[0] = 9
	if x != a {
		t.Errorf("Of behind a change of what was given: %v", x)
	}
}

func TestRight(t *testing.T) {
	for _, a := range []api.Addr{{}, four(1, 2, 3, 4), four(255, 255, 255, 255), six(), six(1, 2, 3, 4), six(bytes.Repeat([]byte{255}, 16)...)} {
		if !addr.Right(a) {
			t.Errorf("%v can't be", a)
		}
	}
	for _, a := range wrong() {
		if addr.Right(a) {
			t.Errorf("%v can be", a)
		}
		a.V6 = true
		if !addr.Right(a) {
			t.Errorf("%v can't be", a)
		}
	}
}

// ordered: addresses that rise.
func ordered() []api.Addr {
	return []api.Addr{
		four(),
		four(0, 0, 0, 0, 1), // one that can't be has its place, too
		four(0, 0, 0, 1),
		four(0, 0, 0, 255),
		four(0, 0, 1),
		four(0, 127, 255, 255),
		four(0, 128),
		four(1, 0, 255),
		four(1, 1),
		four(1, 1, 0, 0, 0, 0, 0, 0, 0, 0, 0, 0, 0, 0, 0, 1),
		four(127, 255, 255, 255),
		four(255, 255, 255, 255),
		six(),
		six(0, 0, 0, 0, 0, 0, 0, 0, 0, 0, 0, 0, 0, 0, 0, 1),
		six(0, 0, 0, 0, 0, 0, 0, 0, 0, 0, 0, 0, 0, 0, 1),
		six(0, 0, 0, 1),
		six(1, 1, 1, 1),
		six(255),
	}
}

func TestLess(t *testing.T) {
	l := ordered()
	for i, a := range l {
		for j, b := range l {
			if addr.Less(a, b) != (i < j) {
				t.Errorf("Less(%v, %v) = %t", a, b, addr.Less(a, b))
			}
		}
	}
}

func TestMask(t *testing.T) {
	for _, c := range []struct {
		a    api.Addr
		bits int
		want api.Addr
	}{
		{four(10, 1, 2, 3), 12, four(10)},
		{four(10, 31, 2, 3), 12, four(10, 16)},
		{four(10, 1, 2, 3), 0, four()},
		{four(10, 1, 2, 3), 32, four(10, 1, 2, 3)},
		{four(10, 1, 2, 3), 31, four(10, 1, 2, 2)},
		{four(255, 255, 255, 255), 1, four(128)},
		{four(255, 255, 255, 255), 8, four(255)},
		{four(255, 255, 255, 255), 25, four(255, 255, 255, 128)},
		{six(bytes.Repeat([]byte{255}, 16)...), 0, six()},
		{six(bytes.Repeat([]byte{255}, 16)...), 33, six(255, 255, 255, 255, 128)},
		{six(bytes.Repeat([]byte{255}, 16)...), 127, six(append(bytes.Repeat([]byte{255}, 15), 254)...)},
		{six(bytes.Repeat([]byte{255}, 16)...), 128, six(bytes.Repeat([]byte{255}, 16)...)},
	} {
		if a, e := addr.Mask(c.a, c.bits); a != c.want || e != api.OK {
			t.Errorf("Mask(%v, %d) = %v, %d", c.a, c.bits, a, e)
		}
	}
}

// wrongBits: numbers of bits that an address does not have.
func wrongBits(a api.Addr) []int {
	return []int{math.MinInt, -128, -8, -1, 8*size(a) + 1, 8*size(a) + 8, 129, 256, math.MaxInt}
}

func TestMaskOfWhatCanNotBe(t *testing.T) {
	for _, a := range []api.Addr{four(10, 1, 2, 3), six(1, 2)} {
		for _, n := range wrongBits(a) {
			if m, e := addr.Mask(a, n); e != api.ErrArg || (m != api.Addr{}) {
				t.Errorf("Mask(%v, %d) = %v, %d", a, n, m, e)
			}
			if addr.Within(a, a, n) {
				t.Errorf("Within(%v, %d)", a, n)
			}
		}
	}
	for _, a := range wrong() {
		for _, n := range []int{-1, 0, 8, 32, 33, 128} {
			if m, e := addr.Mask(a, n); e != api.ErrArg || (m != api.Addr{}) {
				t.Errorf("Mask(%v, %d) = %v, %d", a, n, m, e)
			}
			if addr.Within(a, a, n) || addr.Within(a, four(1, 2, 3, 4), n) || addr.Within(four(1, 2, 3, 4), a, n) {
				t.Errorf("Within(%v, %d)", a, n)
			}
		}
	}
}

func TestWithin(t *testing.T) {
	for _, c := range []struct {
		a, b api.Addr
		bits int
		want bool
	}{
		{four(10, 1, 2, 3), four(10, 15, 0, 0), 12, true},
		{four(10, 1, 2, 3), four(10, 16, 0, 0), 12, false},
		{four(10, 1, 2, 3), four(10, 16, 0, 0), 11, true},
		{four(10, 1, 2, 3), four(200, 1, 2, 3), 0, true},
		{four(10, 1, 2, 3), four(10, 1, 2, 3), 32, true},
		{four(10, 1, 2, 3), four(10, 1, 2, 2), 32, false},
		{four(10, 1, 2, 3), four(10, 1, 2, 2), 31, true},
		{four(), six(), 0, false},
		{six(), four(), 32, false},
		{six(1), six(2), 0, true},
		{six(1), six(1, 0, 0, 0, 0, 0, 0, 0, 0, 0, 0, 0, 0, 0, 0, 1), 127, true},
		{six(1), six(1, 0, 0, 0, 0, 0, 0, 0, 0, 0, 0, 0, 0, 0, 0, 1), 128, false},
		{six(1), six(1), 128, true},
	} {
		if w := addr.Within(c.a, c.b, c.bits); w != c.want {
			t.Errorf("Within(%v, %v, %d) = %t", c.a, c.b, c.bits, w)
		}
	}
}

// TestMaskAsBits holds Mask and Within against texts of bits.
func TestMaskAsBits(t *testing.T) {
	rnd := rand.New(rand.NewSource(1))
	for range 200 {
		a, b := some(rnd), some(rnd)
		if rnd.Intn(2) == 0 { // alike up to a place
			b = a
			b.B[rnd.Intn(size(a))] ^= 1 << rnd.Intn(8)
		}
		for n := range 8*size(a) + 1 {
			want := ofBits(bits(a)[:n] + strings.Repeat("0", 8*size(a)-n))
			if m, e := addr.Mask(a, n); m != want || e != api.OK {
				t.Fatalf("Mask(%v, %d) = %v, %d", a, n, m, e)
			}
			within := a.V6 == b.V6 && bits(a)[:n] == bits(b)[:n]
			if addr.Within(a, b, n) != within || addr.Within(b, a, n) != within {
				t.Fatalf("Within(%v, %v, %d) = %t", a, b, n, !within)
			}
		}
	}
}

// TestMaskedTwice is P3.7.
func TestMaskedTwice(t *testing.T) {
	rnd := rand.New(rand.NewSource(2))
	for range 3000 {
		a, b := some(rnd), some(rnd)
		b.V6 = a.V6
		b = ofBits(bits(b))
		n, m := rnd.Intn(8*size(a)+1), rnd.Intn(8*size(a)+1)
		once, _ := addr.Mask(a, min(n, m))
		first, _ := addr.Mask(a, n)
		if twice, e := addr.Mask(first, m); twice != once || e != api.OK {
			t.Fatalf("Mask(Mask(%v, %d), %d) = %v, %d", a, n, m, twice, e)
		}
		other, _ := addr.Mask(b, n)
		if addr.Within(a, b, n) != (first == other) {
			t.Fatalf("Within(%v, %v, %d) = %t", a, b, n, first != other)
		}
	}
}

// TestLessIsOneOrder is P3.5 of addresses: of two that are not the same just one stands ahead, and sorted ones rise, each ahead of all behind it.
func TestLessIsOneOrder(t *testing.T) {
	rnd := rand.New(rand.NewSource(3))
	l := append(ordered(), wrong()...)
	for range 60 {
		l = append(l, some(rnd))
	}
	oneOrder(t, l, addr.Less)
}

func oneOrder[T comparable](t *testing.T, l []T, less func(a, b T) bool) {
	t.Helper()
	slices.SortFunc(l, func(a, b T) int {
		switch {
		case less(a, b):
			return -1
		case less(b, a):
			return 1
		}
		return 0
	})
	for i, a := range l {
		for j, b := range l {
			if less(a, b) != (i < j && a != b) {
				t.Fatalf("%v, sorted ahead of %v (%t): %t", a, b, i < j, less(a, b))
			}
		}
	}
}

// TestOfAndBytes is P3.6 of addresses.
func TestOfAndBytes(t *testing.T) {
	rnd := rand.New(rand.NewSource(4))
	for range 2000 {
		a := some(rnd)
		b, e := addr.Bytes(a)
		if e != api.OK || len(b) != size(a) {
			t.Fatalf("Bytes(%v) = %v, %d", a, b, e)
		}
		if back, e := addr.Of(b); back != a || e != api.OK {
			t.Fatalf("Of(Bytes(%v)) = %v, %d", a, back, e)
		}
		rnd.Read(b)
		x, _ := addr.Of(b)
		if back, e := addr.Bytes(x); !bytes.Equal(back, b) || e != api.OK {
			t.Fatalf("Bytes(Of(%v)) = %v, %d", b, back, e)
		}
	}
}
