package hash_test

import (
	"math"
	"math/rand"
	"testing"

	"steelyard/addr"
	"steelyard/api"
	"steelyard/hash"
)

const most = math.MaxUint64

// edges: numbers at the ends, and by a bit beside others.
func edges() []uint64 {
	l := []uint64{0, 1, 2, 3, 31, 255, most, most - 1, 1<<32 - 1, 1<<63 - 1, 0x9e3779b97f4a7c15, 0x61c8864680b583eb}
	for i := range 64 {
		l = append(l, 1<<i, most^1<<i)
	}
	return l
}

func TestMix(t *testing.T) {
	for _, c := range []struct{ n, want uint64 }{
		{0, 0xe220a8397b1dcdaf}, // the document's example
		{1, 0x910a2dec89025cc1},
		{2, 0x975835de1c9756ce},
		{most, 0xe4d971771b652c20},
		{1 << 63, 0x481ec0a212a9f3db},
		{0x61c8864680b583eb, 0}, // added, it goes round to 0
	} {
		if n := hash.Mix(c.n); n != c.want {
			t.Errorf("Mix(%x) = %x, want %x", c.n, n, c.want)
		}
	}
}

func TestPair(t *testing.T) {
	for _, c := range []struct{ seed, a, b, want uint64 }{
		{0, 0, 0, 0x238275bc38fcbe91},
		{1, 0, 0, 0xb18a02f46d8d86c3},
		{0, 1, 0, 0x44e5b98100c67fb0},
		{0, 0, 1, 0x2f32a78496c67c60},
		{1, 2, 3, 0xd0734750fde362b3},
		{3, 2, 1, 0xd62a7f6e291fef64},
		{2, 0, 31, 0x28f26dff625f291f},
		{most, most, most, 0x595b17f487c0e71b},
	} {
		if n := hash.Pair(c.seed, c.a, c.b); n != c.want {
			t.Errorf("Pair(%x, %x, %x) = %x, want %x", c.seed, c.a, c.b, n, c.want)
		}
	}
}

// TestPairIsOfMix: by the document's words, of numbers at edges and by chance.
func TestPairIsOfMix(t *testing.T) {
	rnd := rand.New(rand.NewSource(3))
	l := edges()
	for range 5000 {
		seed, a, b := rnd.Uint64(), l[rnd.Intn(len(l))], rnd.Uint64()>>rnd.Intn(64)
		first := hash.Mix(seed)
		second := hash.Mix(first ^ a)
		if n := hash.Pair(seed, a, b); n != hash.Mix(second^b) {
			t.Fatalf("Pair(%x, %x, %x) = %x, want %x", seed, a, b, n, hash.Mix(second^b))
		}
	}
}

// unmixed: the other way of Mix, step by step, by the document's words.
func unmixed(n uint64) uint64 {
	n = unshifted(n, 31)
	n = unshifted(n*inverse(0x94d049bb133111eb), 27)
	n = unshifted(n*inverse(0xbf58476d1ce4e5b9), 30)
	return n - 0x9e3779b97f4a7c15
}

// unshifted: the number that has become n, its bits turned by its own.
func unshifted(n uint64, by int) uint64 {
	was := n
	for i := by; i < 64; i += by {
		was ^= n >> i
	}
	return was
}

// inverse: the number that times an odd one is 1.
func inverse(n uint64) uint64 {
	x := n
	for range 6 { // each time twice as many bits are right
		x *= 2 - n*x
	}
	return x
}

// TestNoTwoHaveTheSameMix is P9.4: what Mix and Pair make can be made what it was.
func TestNoTwoHaveTheSameMix(t *testing.T) {
	rnd := rand.New(rand.NewSource(4))
	l := edges()
	for range 20000 {
		l = append(l, rnd.Uint64())
	}
	for _, n := range l {
		if was := unmixed(hash.Mix(n)); was != n {
			t.Fatalf("Mix(%x) = %x, which is Mix of %x, too", n, hash.Mix(n), was)
		}
		if back := hash.Mix(unmixed(n)); back != n {
			t.Fatalf("no number has the Mix %x", n)
		}
		seed, a := rnd.Uint64(), rnd.Uint64()
		if was := unmixed(hash.Pair(seed, a, n)) ^ hash.Mix(hash.Mix(seed)^a); was != n {
			t.Fatalf("Pair(%x, %x, %x) is that of %x, too", seed, a, n, was)
		}
	}
	seen := map[uint64]uint64{}
	for n := range uint64(1 << 16) {
		h := hash.Pair(1, 0, n)
		if was, ok := seen[h]; ok {
			t.Fatalf("%d and %d have the same Pair", was, n)
		}
		seen[h] = n
	}
}

func TestPort(t *testing.T) {
	for _, c := range []struct {
		h    uint64
		want int
	}{
		{0, 49152},
		{1, 49153},
		{16383, 65535},
		{16384, 49152},
		{16385, 49153},
		{49152, 49152},
		{65535, 65535},
		{1 << 32, 49152},
		{1<<63 - 1, 65535},
		{1 << 63, 49152},
		{1<<63 + 5, 49157}, // above the greatest of numbers with a sign
		{most, 65535},
	} {
		if n := hash.Port(c.h); n != c.want {
			t.Errorf("Port(%x) = %d, want %d", c.h, n, c.want)
		}
	}
}

// TestPortsRange is P9.5, and each port there is some number's.
func TestPortsRange(t *testing.T) {
	rnd := rand.New(rand.NewSource(5))
	l := edges()
	for range 20000 {
		l = append(l, rnd.Uint64())
	}
	for _, h := range l {
		if n := hash.Port(h); n < 49152 || n > 65535 || uint64(n-49152) != h%16384 {
			t.Fatalf("Port(%x) = %d", h, n)
		}
	}
	for i := range 16384 {
		if n := hash.Port(uint64(i)); n != 49152+i {
			t.Fatalf("Port(%d) = %d", i, n)
		}
	}
}

// address: that of these bytes, with 0 behind them.
func address(v6 bool, b ...byte) api.Addr {
	a := api.Addr{V6: v6}
	copy(a.B[:], b)
	return a
}

// udp is the tuple of chapter 3's example; tcp is one of six.
func udp() api.Tuple {
	return api.Tuple{Src: address(false, 1, 2, 3, 4), Dst: address(false, 6, 7, 8, 9), Proto: api.Udp, SrcPort: 5, DstPort: 10}
}

func tcp() api.Tuple {
	t := api.Tuple{Src: address(true), Dst: address(true), Proto: api.Tcp, SrcPort: 65535}
	for i := range 16 {
		t.Src.B[i], t.Dst.B[i] = byte(0x20+i), byte(0xf0+i)
	}
	return t
}

func TestFlow(t *testing.T) {
	for _, c := range []struct {
		t    api.Tuple
		want uint64
	}{
		{udp(), 0xb4c8432afe55ad07},
		{tcp(), 0xbf88a2fcada42d9b},
	} {
		if h, e := hash.Flow(c.t); h != c.want || e != api.OK {
			t.Errorf("Flow(%v) = %x, %d, want %x", c.t, h, e, c.want)
		}
		b, _ := addr.PutTuple(c.t)
		if want := plainSip(1, 2, b); c.want != want {
			t.Errorf("the plain one of %v = %x", c.t, want)
		}
	}
}

// variants: tuples that can be, each unlike the first one in one thing.
func variants() []api.Tuple {
	l := []api.Tuple{tcp(), addr.Turn(tcp()), udp(), addr.Turn(udp())}
	add := func(change func(t *api.Tuple)) {
		t := tcp()
		change(&t)
		l = append(l, t)
	}
	for i := range 16 {
		add(func(t *api.Tuple) { t.Src.B[i] ^= 1 })
		add(func(t *api.Tuple) { t.Dst.B[i] ^= 0x80 })
	}
	add(func(t *api.Tuple) { t.Proto = api.Udp })
	add(func(t *api.Tuple) { t.SrcPort = 0 })
	add(func(t *api.Tuple) { t.SrcPort = 65534 })
	add(func(t *api.Tuple) { t.SrcPort = 255 })
	add(func(t *api.Tuple) { t.DstPort = 1 })
	add(func(t *api.Tuple) { t.DstPort = 256 })
	add(func(t *api.Tuple) { t.DstPort = 65535 })
	add(func(t *api.Tuple) { t.Src, t.Dst = address(true), address(true) })
	add(func(t *api.Tuple) { t.Src, t.Dst = address(false), address(false) })
	return l
}

// TestFlowHangsOnAll: each thing of a tuple is in its number, which is the same whenever it is asked.
func TestFlowHangsOnAll(t *testing.T) {
	seen := map[uint64]api.Tuple{}
	for _, x := range variants() {
		b, _ := addr.PutTuple(x)
		h, e := hash.Flow(x)
		if e != api.OK || h != plainSip(1, 2, b) {
			t.Fatalf("Flow(%v) = %x, %d, want %x", x, h, e, plainSip(1, 2, b))
		}
		if was, ok := seen[h]; ok {
			t.Fatalf("Flow of %v and of %v = %x", was, x, h)
		}
		seen[h] = x
		if again, e := hash.Flow(x); again != h || e != api.OK {
			t.Fatalf("Flow(%v) = %x, then %x, %d", x, h, again, e)
		}
	}
}

// wrongTuples: tuples that can't be, each by one fault.
func wrongTuples() []api.Tuple {
	l := []api.Tuple{{}}
	add := func(spoil func(t *api.Tuple)) {
		for _, t := range []api.Tuple{tcp(), udp()} {
			spoil(&t)
			l = append(l, t)
		}
	}
	for _, n := range []int{math.MinInt, -1, 0, 1, 5, 7, 16, 18, 256 + api.Tcp, 256 + api.Udp, math.MaxInt} {
		add(func(t *api.Tuple) { t.Proto = n })
	}
	for _, n := range []int{math.MinInt, -65536, -1, 65536, 65541, math.MaxInt} {
		add(func(t *api.Tuple) { t.SrcPort = n })
		add(func(t *api.Tuple) { t.DstPort = n })
	}
	add(func(t *api.Tuple) { t.Src, t.Dst = address(true), address(false) })
	add(func(t *api.Tuple) { t.Src, t.Dst = address(false), address(true) })
	for i := 4; i < 16; i++ {
		bad := address(false)
		bad.B[i] = 1
		add(func(t *api.Tuple) { t.Src, t.Dst = bad, address(false) })
		add(func(t *api.Tuple) { t.Src, t.Dst = address(false), bad })
	}
	return l
}

func TestFlowOfWrongTuples(t *testing.T) {
	for _, x := range wrongTuples() {
		if h, e := hash.Flow(x); h != 0 || e != api.ErrArg {
			t.Errorf("Flow(%v) = %x, %d", x, h, e)
		}
	}
}

// FuzzFlow: tuples of any kind end with what their bytes have, or ErrArg.
func FuzzFlow(f *testing.F) {
	f.Add(false, []byte{1, 2, 3, 4}, []byte{6, 7, 8, 9}, 17, 5, 10)
	f.Add(true, rising(16), rising(16), 6, 65535, 0)
	f.Add(false, rising(16), []byte{}, -1, 65536, -1)
	f.Fuzz(func(t *testing.T, v6 bool, src, dst []byte, proto, srcPort, dstPort int) {
		x := api.Tuple{Src: address(v6, src...), Dst: address(v6, dst...), Proto: proto, SrcPort: srcPort, DstPort: dstPort}
		h, e := hash.Flow(x)
		if !addr.RightTuple(x) {
			if h != 0 || e != api.ErrArg {
				t.Fatalf("Flow(%v) = %x, %d", x, h, e)
			}
			return
		}
		b, _ := addr.PutTuple(x)
		if h != plainSip(1, 2, b) || e != api.OK {
			t.Fatalf("Flow(%v) = %x, %d", x, h, e)
		}
	})
}
