package sums_test

import (
	"bytes"
	"hash/crc32"
	"math/rand"
	"testing"

	"steelyard/sums"
)

// some: so many bytes by chance, the same ones in every run.
func some(rnd *rand.Rand, n int) []byte {
	b := make([]byte, n)
	rnd.Read(b)
	return b
}

// turn: b with one bit turned; the bits of a byte are counted from the lowest one on.
func turn(b []byte, bit int) {
	b[bit/8] ^= 1 << (bit % 8)
}

func TestAdd(t *testing.T) {
	for _, c := range []struct {
		sum  uint16
		b    []byte
		want uint16
	}{
		{0, nil, 0},
		{0, []byte{}, 0},
		{5, nil, 5},
		{65535, nil, 65535},
		{0, []byte{1, 2}, 0x0102},
		{0, []byte{1}, 0x0100}, // a last byte alone has a 0 behind it
		{0, []byte{1, 2, 3}, 0x0402},
		{0x0100, []byte{0, 1, 0, 2}, 0x0103},
		{0, []byte{0xff, 0xff}, 65535}, // 65535 is not above 65535
		{65534, []byte{0, 1}, 65535},
		{65535, []byte{0, 0}, 65535},
		{65535, []byte{0, 1}, 1},
		{65535, []byte{0xff, 0xff}, 65535},
		{65535, []byte{1}, 0x0100},
		{0xffff, []byte{0xff, 0xff, 0xff, 0xff, 0xff}, 0xff00},
		{0x8000, []byte{0x80, 0x00}, 1},
	} {
		if n := sums.Add(c.sum, c.b); n != c.want {
			t.Errorf("Add(%x, %x) = %x, want %x", c.sum, c.b, n, c.want)
		}
	}
}

// TestAddOfLongBytes holds Add against one remainder of the whole sum: what goes round is only 0, if all is.
func TestAddOfLongBytes(t *testing.T) {
	rnd := rand.New(rand.NewSource(1))
	for range 300 {
		b := some(rnd, rnd.Intn(400))
		if rnd.Intn(3) == 0 {
			b = bytes.Repeat([]byte{0xff}, len(b))
		}
		sum := uint16(rnd.Intn(65536))
		all := uint64(sum)
		for i, x := range b {
			if i%2 == 0 {
				all += uint64(x) * 256
			} else {
				all += uint64(x)
			}
		}
		want := uint16(0)
		if all > 0 {
			want = uint16((all-1)%65535 + 1)
		}
		if n := sums.Add(sum, b); n != want {
			t.Fatalf("Add(%x, %x) = %x, want %x", sum, b, n, want)
		}
	}
}

func TestInet(t *testing.T) {
	head := []byte{0x45, 0, 0, 0x73, 0, 0, 0x40, 0, 0x40, 0x11, 0, 0, 0xc0, 0xa8, 0, 1, 0xc0, 0xa8, 0, 0xc7}
	for _, c := range []struct {
		b    []byte
		want uint16
	}{
		{head, 0xb861},
		{nil, 65535},
		{[]byte{}, 65535},
		{[]byte{0, 0, 0}, 65535},
		{[]byte{0xff, 0xff}, 0},
		{[]byte{0xff, 0xff, 0, 1}, 65534},
		{[]byte{1}, 0xfeff},
		{[]byte{0, 1, 0xf2, 3, 0xf4, 0xf5, 0xf6, 0xf7}, 0x220d}, // RFC 1071's own
	} {
		if n := sums.Inet(c.b); n != c.want {
			t.Errorf("Inet(%x) = %x, want %x", c.b, n, c.want)
		}
	}
}

func TestUpdate(t *testing.T) {
	for _, c := range []struct{ sum, was, is, want uint16 }{
		{0xb861, 0x4011, 0x3f11, 0xb961},
		{0xdd2f, 0x5555, 0x3285, 0x0000}, // RFC 1624's own
		{0, 0, 0, 0},
		{0, 65535, 65535, 0},
		{65535, 0, 0, 0},
		{65535, 65535, 0, 65535},
		{65535, 65535, 5, 65530},
		{65535, 0, 65535, 0},
	} {
		if n := sums.Update(c.sum, c.was, c.is); n != c.want {
			t.Errorf("Update(%x, %x, %x) = %x, want %x", c.sum, c.was, c.is, n, c.want)
		}
	}
}

// TestUpdateIsTheNewInet is P2.5.
func TestUpdateIsTheNewInet(t *testing.T) {
	rnd := rand.New(rand.NewSource(2))
	edges := []uint16{0, 1, 0x00ff, 0xff00, 65534, 65535}
	word := func() uint16 {
		if rnd.Intn(2) == 0 {
			return edges[rnd.Intn(len(edges))]
		}
		return uint16(rnd.Intn(65536))
	}
	for range 20000 {
		b := some(rnd, 2+2*rnd.Intn(6))
		for i := 0; i < len(b) && rnd.Intn(2) == 0; i++ { // so that sums of 0 come up, too
			b[i] = byte(255 * rnd.Intn(2))
		}
		place := 2 * rnd.Intn(len(b)/2)
		was, is := word(), word()
		b[place], b[place+1] = byte(was>>8), byte(was)
		old := sums.Inet(b)
		b[place], b[place+1] = byte(is>>8), byte(is)
		got, want := sums.Update(old, was, is), sums.Inet(b)
		if got != want && !(got == 0 && want == 65535) && !(got == 65535 && want == 0) {
			t.Fatalf("Update(%x, %x, %x) = %x, want %x", old, was, is, got, want)
		}
	}
}

func TestCrc(t *testing.T) {
	for _, c := range []struct {
		s    string
		want uint32
	}{
		{"123456789", 0xcbf43926},
		{"", 0},
		{"a", 0xe8b7be43},
		{"\x00", 0xd202ef8d},
		{"\x00\x00\x00\x00", 0x2144df1c},
		{"\xff\xff\xff\xff", 0xffffffff},
	} {
		if n := sums.Crc([]byte(c.s)); n != c.want {
			t.Errorf("Crc(%q) = %x, want %x", c.s, n, c.want)
		}
	}
	if sums.Crc(nil) != 0 || sums.More(0x12345678, nil) != 0x12345678 || sums.More(5, []byte{}) != 5 {
		t.Error("a sum of no bytes")
	}
}

func TestCrcAsTheLibraryHasIt(t *testing.T) {
	rnd := rand.New(rand.NewSource(3))
	for range 500 {
		b, sum := some(rnd, rnd.Intn(200)), rnd.Uint32()
		if n, want := sums.Crc(b), crc32.ChecksumIEEE(b); n != want {
			t.Fatalf("Crc(%x) = %x, want %x", b, n, want)
		}
		if n, want := sums.More(sum, b), crc32.Update(sum, crc32.IEEETable, b); n != want {
			t.Fatalf("More(%x, %x) = %x, want %x", sum, b, n, want)
		}
	}
}

// TestBytesBehindOthers is P2.3.
func TestBytesBehindOthers(t *testing.T) {
	rnd := rand.New(rand.NewSource(4))
	for range 500 {
		b := some(rnd, rnd.Intn(60))
		add, more := uint16(rnd.Intn(65536)), rnd.Uint32()
		for n := 0; n <= len(b); n++ {
			if x, y := sums.More(sums.More(more, b[:n]), b[n:]), sums.More(more, b); x != y {
				t.Fatalf("More of %d and %d bytes: %x, of all %x", n, len(b)-n, x, y)
			}
			if x, y := sums.Add(sums.Add(add, b[:n]), b[n:]), sums.Add(add, b); n%2 == 0 && x != y {
				t.Fatalf("Add of %d and %d bytes: %x, of all %x", n, len(b)-n, x, y)
			}
		}
	}
}

// TestInetBehind is P2.4.
func TestInetBehind(t *testing.T) {
	rnd := rand.New(rand.NewSource(5))
	for n := 0; n < 200; n += 2 {
		for _, b := range [][]byte{some(rnd, n), make([]byte, n), bytes.Repeat([]byte{0xff}, n)} {
			sum := sums.Inet(b)
			if x := sums.Inet(append(b, byte(sum>>8), byte(sum))); x != 0 {
				t.Fatalf("Inet of %x with its Inet behind: %x", b, x)
			}
		}
	}
}

// TestTurnedBits is P2.6: one bit turned turns both sums, up to 32 in a row turn Crc.
func TestTurnedBits(t *testing.T) {
	rnd := rand.New(rand.NewSource(6))
	for _, n := range []int{1, 2, 7, 20, 33} {
		for _, b := range [][]byte{some(rnd, n), make([]byte, n), bytes.Repeat([]byte{0xff}, n)} {
			inet, crc := sums.Inet(b), sums.Crc(b)
			for first := range 8 * n {
				c := bytes.Clone(b)
				turn(c, first)
				if sums.Inet(c) == inet || sums.Crc(c) == crc {
					t.Fatalf("%x with the bit %d turned: Inet %x, Crc %x", b, first, sums.Inet(c), sums.Crc(c))
				}
				for range 20 {
					c := bytes.Clone(b)
					row := rnd.Uint32() | 1
					for i := 0; i < 32 && first+i < 8*n; i++ {
						if row>>i&1 == 1 {
							turn(c, first+i)
						}
					}
					if sums.Crc(c) == crc {
						t.Fatalf("%x with the bits %x from %d on turned: Crc %x", b, row, first, crc)
					}
				}
			}
		}
	}
}

func TestNothingIsChanged(t *testing.T) {
	b := []byte{1, 2, 3}
	sums.Add(7, b)
	sums.Inet(b)
	sums.Crc(b)
	sums.More(7, b)
	if !bytes.Equal(b, []byte{1, 2, 3}) {
		t.Errorf("what was given is %v", b)
	}
}
