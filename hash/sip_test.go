package hash_test

import (
	"bytes"
	"math/big"
	"math/rand"
	"testing"

	"steelyard/hash"
)

// The key of the known sums.
const (
	key0 = 0x0706050403020100
	key1 = 0x0f0e0d0c0b0a0908
)

// rising: so many bytes, each one more than the one ahead of it.
func rising(n int) []byte {
	b := make([]byte, n)
	for i := range b {
		b[i] = byte(i)
	}
	return b
}

// some: so many bytes by chance, the same ones in every run.
func some(rnd *rand.Rand, n int) []byte {
	b := make([]byte, n)
	rnd.Read(b)
	return b
}

// known: the Sip of so many rising bytes, as its authors have them.
func known() []uint64 {
	return []uint64{
		0x726fdb47dd0e0e31, 0x74f839c593dc67fd, 0x0d6c8009d9a94f5a, 0x85676696d7fb7e2d,
		0xcf2794e0277187b7, 0x18765564cd99a68d, 0xcbc9466e58fee3ce, 0xab0200f58b01d137,
		0x93f5f5799a932462, 0x9e0082df0ba9e4b0, 0x7a5dbbc594ddb9f3, 0xf4b32f46226bada7,
		0x751e8fbc860ee5fb, 0x14ea5627c0843d90, 0xf723ca908e7af2ee, 0xa129ca6149be45e5,
		0x3f2acc7f57c29bdb, 0x699ae9f52cbe4794, 0x4bc1b3f0968dd39c, 0xbb6dc91da77961bd,
		0xbed65cf21aa2ee98, 0xd0f2cbb02e3b67c7, 0x93536795e3a33e88, 0xa80c038ccd5ccec8,
		0xb8ad50c6f649af94, 0xbce192de8a85b8ea, 0x17d835b85bbb15f3, 0x2f2e6163076bcfad,
		0xde4daaaca71dc9a5, 0xa6a2506687956571, 0xad87a3535c49ef28, 0x32d892fad841c342,
		0x7127512f72f27cce, 0xa7f32346f95978e3, 0x12e0b01abb051238, 0x15e034d40fa197ae,
		0x314dffbe0815a3b4, 0x027990f029623981, 0xcadcd4e59ef40c4d, 0x9abfd8766a33735c,
		0x0e3ea96b5304a7d0, 0xad0c42d6fc585992, 0x187306c89bc215a9, 0xd4a60abcf3792b95,
		0xf935451de4f21df2, 0xa9538f0419755787, 0xdb9acddff56ca510, 0xd06c98cd5c0975eb,
		0xe612a3cb9ecba951, 0xc766e62cfcadaf96, 0xee64435a9752fe72, 0xa192d576b245165a,
		0x0a8787bf8ecb74b2, 0x81b3e73d20b49b6f, 0x7fa8220ba3b2ecea, 0x245731c13ca42499,
		0xb78dbfaf3a8d83bd, 0xea1ad565322a1a0b, 0x60e61c23a3795013, 0x6606d7e446282b93,
		0x6ca4ecb15c5f91e1, 0x9f626da15c9625f3, 0xe51b38608ef25f57, 0x958a324ceb064572,
	}
}

func TestSip(t *testing.T) {
	for n, want := range known() {
		if h := hash.Sip(key0, key1, rising(n)); h != want {
			t.Errorf("Sip of %d bytes = %x, want %x", n, h, want)
		}
	}
	for _, c := range []struct {
		k0, k1 uint64
		b      []byte
		want   uint64
	}{
		{0, 0, nil, 0x1e924b9d737700d7},
		{0, 0, []byte{}, 0x1e924b9d737700d7},
		{0, 0, []byte("a"), 0x96c20860cd93a249},
		{0, 0, []byte("abcdefgh"), 0xe65ba172cce22193},
		{1<<64 - 1, 1<<64 - 1, nil, 0x35dd279ee86ce565},
		{1<<64 - 1, 1<<64 - 1, []byte("abcdefgh"), 0x5579fc3c9cb52964},
		{1, 2, []byte("a"), 0x4795cb2ed678fcf6},
		{2, 1, []byte("a"), 0xe0ae272bceb460d8},
		{key0, key1, rising(255), 0xa9c169fec74db21a}, // how many bytes there are still goes into a byte
		{key0, key1, rising(256), 0x999d0526d2a7bfd7}, // its lowest 8 bits
		{key0, key1, rising(257), 0x8a817b8d55b29748},
		{key0, key1, rising(263), 0x86d801b865760792},
		{key0, key1, rising(264), 0xe76e0db3fa0ee85c},
		{key0, key1, rising(65535), 0xbc3ff5a47b55a468},
	} {
		if h := hash.Sip(c.k0, c.k1, c.b); h != c.want {
			t.Errorf("Sip(%x, %x, %d bytes) = %x, want %x", c.k0, c.k1, len(c.b), h, c.want)
		}
	}
}

// plain is Sip by whole numbers without a limit, cut to 64 bits where they go beyond.
type plain struct{ v [4]*big.Int }

func cut(n *big.Int) *big.Int {
	return n.And(n, new(big.Int).SetUint64(1<<64-1))
}

// turned: shifted to the left, what falls out coming in at the right.
func turned(n *big.Int, by uint) *big.Int {
	m := new(big.Int).Lsh(n, by)
	out := new(big.Int).Rsh(m, 64)
	return m.Or(cut(m), out)
}

func (p *plain) xor(i int, m *big.Int) { p.v[i] = new(big.Int).Xor(p.v[i], m) }
func (p *plain) add(i, j int)          { p.v[i] = cut(new(big.Int).Add(p.v[i], p.v[j])) }
func (p *plain) turn(i int, by uint)   { p.v[i] = turned(p.v[i], by) }

func (p *plain) round() {
	p.add(0, 1)
	p.turn(1, 13)
	p.xor(1, p.v[0])
	p.turn(0, 32)
	p.add(2, 3)
	p.turn(3, 16)
	p.xor(3, p.v[2])
	p.add(0, 3)
	p.turn(3, 21)
	p.xor(3, p.v[0])
	p.add(2, 1)
	p.turn(1, 17)
	p.xor(1, p.v[2])
	p.turn(2, 32)
}

func plainSip(k0, k1 uint64, b []byte) uint64 {
	var p plain
	for i, text := range []string{"736f6d6570736575", "646f72616e646f6d", "6c7967656e657261", "7465646279746573"} {
		p.v[i], _ = new(big.Int).SetString(text, 16)
		p.xor(i, new(big.Int).SetUint64([]uint64{k0, k1}[i%2]))
	}
	whole := append([]byte{}, b...)
	for len(whole)%8 != 7 {
		whole = append(whole, 0)
	}
	whole = append(whole, byte(len(b)%256))
	for i := 0; i < len(whole); i += 8 {
		m := new(big.Int)
		for j := 7; j >= 0; j-- {
			m.Add(m.Lsh(m, 8), big.NewInt(int64(whole[i+j])))
		}
		p.xor(3, m)
		p.round()
		p.round()
		p.xor(0, m)
	}
	p.xor(2, big.NewInt(255))
	for range 4 {
		p.round()
	}
	all := new(big.Int)
	for _, n := range p.v {
		all.Xor(all, n)
	}
	return all.Uint64()
}

// TestSipByChance holds Sip against the plain one.
func TestSipByChance(t *testing.T) {
	rnd := rand.New(rand.NewSource(1))
	for range 500 {
		k0, k1, b := rnd.Uint64(), rnd.Uint64(), some(rnd, rnd.Intn(300))
		if h, want := hash.Sip(k0, k1, b), plainSip(k0, k1, b); h != want {
			t.Fatalf("Sip(%x, %x, %x) = %x, want %x", k0, k1, b, h, want)
		}
	}
}

// TestSipOfLongBytes is P7 for bytes beyond every limit.
func TestSipOfLongBytes(t *testing.T) {
	b := some(rand.New(rand.NewSource(2)), 1<<20+3)
	if hash.Sip(1, 2, b) != plainSip(1, 2, b) {
		t.Errorf("Sip of %d bytes", len(b))
	}
}

// TestSipLeavesItsBytes: they aren't changed or kept, and what stands behind them plays no part.
func TestSipLeavesItsBytes(t *testing.T) {
	for n := range 20 {
		b := rising(32)
		h := hash.Sip(key0, key1, b[:n])
		if !bytes.Equal(b, rising(32)) {
			t.Fatalf("behind Sip of %d bytes: %x", n, b)
		}
		for i := range b[n:] {
			b[n+i] = 0xff
		}
		if h != known()[n] || hash.Sip(key0, key1, b[:n]) != h {
			t.Errorf("Sip of %d bytes hangs on those behind them", n)
		}
		clear(b)
		if hash.Sip(key0, key1, rising(n)) != h {
			t.Errorf("Sip of %d bytes is another one the second time", n)
		}
	}
}

// FuzzSip: bytes of any kind end with what the plain one has.
func FuzzSip(f *testing.F) {
	f.Add(uint64(key0), uint64(key1), rising(15))
	f.Add(uint64(0), uint64(1<<64-1), []byte{})
	f.Fuzz(func(t *testing.T, k0, k1 uint64, b []byte) {
		if h, want := hash.Sip(k0, k1, b), plainSip(k0, k1, b); h != want {
			t.Fatalf("Sip(%x, %x, %x) = %x, want %x", k0, k1, b, h, want)
		}
	})
}
