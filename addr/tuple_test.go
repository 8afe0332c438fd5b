package addr_test

import (
	"bytes"
	"math"
	"math/rand"
	"testing"

	"steelyard/addr"
	"steelyard/api"
)

// tcp is a tuple that can be, of six.
func tcp() api.Tuple {
	return api.Tuple{Src: six(0xfd, 1, 2), Dst: six(0xfd, 3, 4), Proto: api.Tcp, SrcPort: 40000, DstPort: 443}
}

// udp is that of the document's example.
func udp() api.Tuple {
	return api.Tuple{Src: four(1, 2, 3, 4), Dst: four(6, 7, 8, 9), Proto: api.Udp, SrcPort: 5, DstPort: 10}
}

func udpBytes() []byte {
	return []byte{
		4, 17,
		1, 2, 3, 4, 0, 0, 0, 0, 0, 0, 0, 0, 0, 0, 0, 0,
		6, 7, 8, 9, 0, 0, 0, 0, 0, 0, 0, 0, 0, 0, 0, 0,
		0, 5, 0, 10,
	}
}

func tcpBytes() []byte {
	return []byte{
		6, 6,
		0xfd, 1, 2, 0, 0, 0, 0, 0, 0, 0, 0, 0, 0, 0, 0, 0,
		0xfd, 3, 4, 0, 0, 0, 0, 0, 0, 0, 0, 0, 0, 0, 0, 0,
		0x9c, 0x40, 1, 0xbb,
	}
}

// wrongTuples: tuples that can't be, each by one fault.
func wrongTuples() []api.Tuple {
	var l []api.Tuple
	add := func(spoil func(t *api.Tuple)) {
		for _, t := range []api.Tuple{tcp(), udp()} {
			spoil(&t)
			l = append(l, t)
		}
	}
	for _, a := range wrong() {
		add(func(t *api.Tuple) { t.Src, t.Dst = a, four(1) })
		add(func(t *api.Tuple) { t.Src, t.Dst = four(1), a })
	}
	add(func(t *api.Tuple) { t.Src.V6, t.Src.B, t.Dst.V6, t.Dst.B = true, [16]byte{}, false, [16]byte{} })
	add(func(t *api.Tuple) { t.Src.V6, t.Src.B, t.Dst.V6, t.Dst.B = false, [16]byte{}, true, [16]byte{} })
	for _, n := range []int{math.MinInt, -1, 0, 1, 5, 7, 16, 18, 58, 255, 256 + api.Tcp, 256 + api.Udp, math.MaxInt} {
		add(func(t *api.Tuple) { t.Proto = n })
	}
	for _, n := range []int{math.MinInt, -65536, -1, 65536, 65541, math.MaxInt} {
		add(func(t *api.Tuple) { t.SrcPort = n })
		add(func(t *api.Tuple) { t.DstPort = n })
	}
	return append(l, api.Tuple{})
}

// someTuple: a tuple by chance that can be.
func someTuple(rnd *rand.Rand) api.Tuple {
	port := func() int { return [...]int{0, 1, 255, 256, 65535, rnd.Intn(65536)}[rnd.Intn(6)] }
	t := api.Tuple{Src: some(rnd), Dst: some(rnd), Proto: [...]int{api.Tcp, api.Udp}[rnd.Intn(2)], SrcPort: port(), DstPort: port()}
	for t.Dst.V6 != t.Src.V6 {
		t.Dst = some(rnd)
	}
	return t
}

func TestRightTuple(t *testing.T) {
	zeros, most := udp(), tcp()
	zeros.Src, zeros.Dst, zeros.SrcPort, zeros.DstPort = four(), four(), 0, 0
	most.SrcPort, most.DstPort = 65535, 65535
	loop := udp()
	loop.Dst, loop.DstPort = loop.Src, loop.SrcPort
	for _, x := range []api.Tuple{tcp(), udp(), zeros, most, loop} {
		if !addr.RightTuple(x) {
			t.Errorf("%v can't be", x)
		}
	}
	for _, x := range wrongTuples() {
		if addr.RightTuple(x) {
			t.Errorf("%v can be", x)
		}
	}
}

// TestLessTuple: each tuple differs from the one ahead of it in a field that counts more than those in which it would stand ahead.
func TestLessTuple(t *testing.T) {
	low, high := four(1), six(2)
	l := []api.Tuple{
		{Proto: math.MinInt, Src: high, Dst: high, SrcPort: 9, DstPort: 9},
		{Proto: 6, Src: low, Dst: low, SrcPort: math.MinInt, DstPort: 9},
		{Proto: 6, Src: low, Dst: low, SrcPort: 1, DstPort: math.MinInt},
		{Proto: 6, Src: low, Dst: low, SrcPort: 1, DstPort: 9},
		{Proto: 6, Src: low, Dst: low, SrcPort: 2, DstPort: 1},
		{Proto: 6, Src: low, Dst: low, SrcPort: 2, DstPort: math.MaxInt},
		{Proto: 6, Src: low, Dst: high, SrcPort: 1, DstPort: 1},
		{Proto: 6, Src: low, Dst: high, SrcPort: 9, DstPort: 9},
		{Proto: 6, Src: four(1, 0, 0, 0, 1), Dst: low, SrcPort: 1, DstPort: 1},
		{Proto: 6, Src: high, Dst: low, SrcPort: 1, DstPort: 1},
		{Proto: 6, Src: high, Dst: high, SrcPort: 9, DstPort: 9},
		{Proto: 17, Src: low, Dst: low, SrcPort: 1, DstPort: 1},
		{Proto: 17, Src: low, Dst: low, SrcPort: 1, DstPort: 2},
	}
	for i, a := range l {
		for j, b := range l {
			if addr.LessTuple(a, b) != (i < j) {
				t.Errorf("LessTuple(%v, %v) = %t", a, b, addr.LessTuple(a, b))
			}
		}
	}
}

// TestLessTupleIsOneOrder is P3.5 of tuples.
func TestLessTupleIsOneOrder(t *testing.T) {
	rnd := rand.New(rand.NewSource(5))
	l := wrongTuples()
	for range 60 {
		x, y := someTuple(rnd), someTuple(rnd)
		near := x
		near.Dst, near.DstPort = y.Dst, y.DstPort
		l = append(l, x, y, near, addr.Turn(x))
	}
	oneOrder(t, l, addr.LessTuple)
}

func TestTurn(t *testing.T) {
	want := api.Tuple{Src: four(6, 7, 8, 9), Dst: four(1, 2, 3, 4), Proto: api.Udp, SrcPort: 10, DstPort: 5}
	if x := addr.Turn(udp()); x != want {
		t.Errorf("Turn = %v", x)
	}
	for _, x := range append(wrongTuples(), tcp(), udp()) { // of those that can't be, too
		y := addr.Turn(x)
		if addr.Turn(y) != x || y.Src != x.Dst || y.Dst != x.Src || y.Proto != x.Proto || y.SrcPort != x.DstPort || y.DstPort != x.SrcPort {
			t.Errorf("Turn(%v) = %v", x, y)
		}
	}
}

func TestPutTuple(t *testing.T) {
	if b, e := addr.PutTuple(udp()); !bytes.Equal(b, udpBytes()) || e != api.OK {
		t.Errorf("PutTuple = %v, %d", b, e)
	}
	if b, e := addr.PutTuple(tcp()); !bytes.Equal(b, tcpBytes()) || e != api.OK {
		t.Errorf("PutTuple = %v, %d", b, e)
	}
	for _, x := range wrongTuples() {
		if b, e := addr.PutTuple(x); len(b) != 0 || e != api.ErrArg {
			t.Errorf("PutTuple(%v) = %v, %d", x, b, e)
		}
	}
}

func TestGetTuple(t *testing.T) {
	if x, e := addr.GetTuple(udpBytes()); x != udp() || e != api.OK {
		t.Errorf("GetTuple = %v, %d", x, e)
	}
	if x, e := addr.GetTuple(tcpBytes()); x != tcp() || e != api.OK {
		t.Errorf("GetTuple = %v, %d", x, e)
	}
}

// refused: is b refused with that error, and nothing else told?
func refused(t *testing.T, b []byte, want api.Errno) {
	t.Helper()
	if x, e := addr.GetTuple(b); e != want || (x != api.Tuple{}) {
		t.Errorf("GetTuple(%v) = %v, %d; want %d", b, x, e, want)
	}
}

func TestGetTupleOfOtherBytes(t *testing.T) {
	long := append(udpBytes(), make([]byte, 40)...)
	for n := range long {
		if n != addr.TupleSize {
			refused(t, long[:n], api.ErrSize)
		}
	}
	refused(t, nil, api.ErrSize)
	for n := range 256 {
		for _, b := range [][]byte{udpBytes(), tcpBytes()} {
			if b[0] = byte(n); n != 4 && n != 6 {
				refused(t, b, api.ErrVersion)
			}
		}
		for _, b := range [][]byte{udpBytes(), tcpBytes()} {
			if b[1] = byte(n); n != api.Tcp && n != api.Udp {
				refused(t, b, api.ErrProto)
			}
		}
	}
	for i := 2; i < 34; i++ {
		b := udpBytes()
		b[i] = 0x80
		if (i-2)%16 >= 4 {
			refused(t, b, api.ErrForm)
		} else if _, e := addr.GetTuple(b); e != api.OK {
			t.Errorf("GetTuple(%v): %d", b, e)
		}
	}
}

// TestGetTupleTellsTheFirstError spoils bytes more and more, from what is asked last on.
func TestGetTupleTellsTheFirstError(t *testing.T) {
	b := udpBytes()
	b[33] = 1
	refused(t, b, api.ErrForm)
	b[1] = 7
	refused(t, b, api.ErrProto)
	b[0] = 5
	refused(t, b, api.ErrVersion)
	refused(t, b[:37], api.ErrSize)
	refused(t, append(b, 0), api.ErrSize)
}

func TestTupleSharesNoMemory(t *testing.T) {
	given := udpBytes()
	x, _ := addr.GetTuple(given)
	if !bytes.Equal(given, udpBytes()) {
		t.Errorf("what was given is %v", given)
	}
	clear(given)
	if x != udp() {
		t.Errorf("behind a change of what was given: %v", x)
	}
	b, _ := addr.PutTuple(x)
	clear(b)
	if b, _ := addr.PutTuple(x); !bytes.Equal(b, udpBytes()) {
		t.Errorf("behind a change of an answer: %v", b)
	}
}

// TestPutAndGetTuple is P3.6 of tuples, and P6.
func TestPutAndGetTuple(t *testing.T) {
	rnd := rand.New(rand.NewSource(6))
	for range 2000 {
		x := someTuple(rnd)
		b, e := addr.PutTuple(x)
		if len(b) != addr.TupleSize || e != api.OK {
			t.Fatalf("PutTuple(%v) = %v, %d", x, b, e)
		}
		if back, e := addr.GetTuple(b); back != x || e != api.OK {
			t.Fatalf("GetTuple(PutTuple(%v)) = %v, %d", x, back, e)
		}
		b[rnd.Intn(len(b))] ^= 1 << rnd.Intn(8)
		thereAndBack(t, b)
	}
}

// thereAndBack: what GetTuple takes can be, and PutTuple writes it as it was; what it refuses tells nothing else.
func thereAndBack(t *testing.T, b []byte) {
	t.Helper()
	x, e := addr.GetTuple(b)
	if e != api.OK {
		if (x != api.Tuple{}) {
			t.Fatalf("GetTuple(%v) = %v, %d", b, x, e)
		}
		return
	}
	if back, e := addr.PutTuple(x); !addr.RightTuple(x) || !bytes.Equal(back, b) || e != api.OK {
		t.Fatalf("GetTuple(%v) = %v, back %v, %d", b, x, back, e)
	}
}

// FuzzTuple: any bytes are refused, or a tuple that PutTuple writes just so.
func FuzzTuple(f *testing.F) {
	f.Add(udpBytes())
	f.Add(tcpBytes())
	f.Add([]byte{})
	f.Fuzz(func(t *testing.T, b []byte) { thereAndBack(t, b) })
}
