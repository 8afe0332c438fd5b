package member_test

import (
	"bytes"
	"math/rand"
	"slices"
	"testing"

	"steelyard/api"
	"steelyard/member"
)

// known: views and their bytes.
func known(t *testing.T) map[*member.View][]byte {
	t.Helper()
	v := made(t, 1, 3)
	heard(t, v, 0, info(api.Suspect, 0x0102030405), true, info(api.Suspect, 0x0102030405))
	heard(t, v, 1, info(api.Dead, 6), true, info(api.Alive, 7))
	heard(t, v, 2, info(api.Dead, api.MaxTicks), true, info(api.Dead, api.MaxTicks))
	return map[*member.View][]byte{
		made(t, 0, 1):  {1, 0, 0, 0, 0, 0, 0, 0},
		made(t, 5, 16): append([]byte{16}, make([]byte, 7*16)...),
		v: {3,
			1, 0, 1, 2, 3, 4, 5,
			0, 0, 0, 0, 0, 0, 7,
			2, 1, 0, 0, 0, 0, 0},
	}
}

func TestBytes(t *testing.T) {
	for v, want := range known(t) {
		b := v.Bytes()
		if !bytes.Equal(b, want) {
			t.Errorf("Bytes = %x, want %x", b, want)
		}
		l, e := member.Read(want)
		if !slices.Equal(l, seen(v)[:len(l)]) || len(l) != int(want[0]) || e != api.OK {
			t.Errorf("Read(%x) = %v, %d", want, l, e)
		}
		clear(b)
		clear(l)
		if again := v.Bytes(); !bytes.Equal(again, want) {
			t.Errorf("behind changes: Bytes = %x", again)
		}
	}
}

// plainRead is Read by the document's words: what is there is asked by how many bytes there are.
func plainRead(b []byte) ([]member.Info, api.Errno) {
	if len(b) == 0 || len(b) < 1+7*int(b[0]) {
		return nil, api.ErrShort
	}
	if len(b) > 1+7*int(b[0]) || b[0] == 0 || b[0] > 16 {
		return nil, api.ErrForm
	}
	var l []member.Info
	for i := range int(b[0]) {
		var inc int64
		for _, x := range b[2+7*i : 8+7*i] {
			inc = inc<<8 + int64(x)
		}
		if b[1+7*i] > 2 || inc > api.MaxTicks {
			return nil, api.ErrForm
		}
		l = append(l, info(int(b[1+7*i]), inc))
	}
	return l, api.OK
}

// asPlain fails unless Read answers as the plain one; what it takes is told as it was (P6).
func asPlain(t *testing.T, b []byte) {
	t.Helper()
	was := bytes.Clone(b)
	want, f := plainRead(b)
	l, e := member.Read(b)
	if !slices.Equal(l, want) || e != f || !bytes.Equal(b, was) {
		t.Fatalf("Read(%x) = %v, %d, want %v, %d", b, l, e, want, f)
	}
	if e != api.OK {
		return
	}
	for me := range len(l) { // a view to which the same is told has the same bytes, but of me
		v := made(t, me, len(l))
		for node, i := range l {
			if _, e := v.Hear(node, i); e != api.OK {
				t.Fatalf("Hear(%d, %v): %d", node, i, e)
			}
		}
		back := v.Bytes()
		copy(back[1+7*me:8+7*me], b[1+7*me:])
		if !bytes.Equal(back, b) {
			t.Fatalf("%x is told as %x", b, back)
		}
	}
}

func TestReadOfFewerAndMore(t *testing.T) {
	for _, b := range known(t) {
		for n := range b {
			if l, e := member.Read(b[:n]); len(l) != 0 || e != api.ErrShort {
				t.Errorf("Read(%x) = %v, %d", b[:n], l, e)
			}
		}
		for _, more := range [][]byte{{0}, make([]byte, 7), make([]byte, 70000)} {
			if l, e := member.Read(slices.Concat(b, more)); len(l) != 0 || e != api.ErrForm {
				t.Errorf("Read of %d more = %v, %d", len(more), l, e)
			}
		}
	}
	if l, e := member.Read(nil); len(l) != 0 || e != api.ErrShort {
		t.Errorf("Read of nil = %v, %d", l, e)
	}
}

// TestReadOfCounts: none, as many as there may be, and more; that they are more is seen behind all else.
func TestReadOfCounts(t *testing.T) {
	for n := range 256 {
		b := append([]byte{byte(n)}, make([]byte, 7*n)...)
		want := api.OK
		if n == 0 || n > 16 {
			want = api.ErrForm
		}
		if l, e := member.Read(b); e != want || want == api.OK && len(l) != n || want != api.OK && len(l) != 0 {
			t.Errorf("Read of %d = %v, %d", n, l, e)
		}
		asPlain(t, b)
		asPlain(t, b[:len(b)-1])
		asPlain(t, append(b, 0))
	}
}

// TestReadOfEachByte: each byte of some is each byte there is.
func TestReadOfEachByte(t *testing.T) {
	for _, was := range known(t) {
		for i := range was {
			for n := range 256 {
				b := bytes.Clone(was)
				b[i] = byte(n)
				asPlain(t, b)
			}
		}
	}
	for _, b := range [][]byte{
		{1, 0, 1, 0, 0, 0, 0, 1}, {1, 2, 1, 0, 0, 0, 0, 1}, {1, 3, 0, 0, 0, 0, 0, 0}, {1, 255, 255, 255, 255, 255, 255, 255},
		{2, 0, 0, 0, 0, 0, 0, 0, 3, 0, 0, 0, 0, 0, 0}, {2, 3, 0, 0, 0, 0, 0, 0, 0, 0, 0, 0, 0, 0, 0},
	} {
		if l, e := member.Read(b); len(l) != 0 || e != api.ErrForm {
			t.Errorf("Read(%x) = %v, %d", b, l, e)
		}
	}
}

// TestBytesByChance: views to which things are told by chance.
func TestBytesByChance(t *testing.T) {
	rnd := rand.New(rand.NewSource(2))
	for range 500 {
		nodes := 1 + rnd.Intn(16)
		v := made(t, rnd.Intn(nodes), nodes)
		for range 30 {
			if _, e := v.Hear(rnd.Intn(nodes), info(rnd.Intn(3), rnd.Int63n(api.MaxTicks+1)>>rnd.Intn(41))); e != api.OK {
				t.Fatalf("Hear: %d", e)
			}
		}
		b := v.Bytes()
		l, e := member.Read(b)
		if len(b) != 1+7*nodes || !slices.Equal(l, seen(v)[:nodes]) || e != api.OK {
			t.Fatalf("Read(%x) = %v, %d, of %v", b, l, e, seen(v))
		}
		b[rnd.Intn(len(b))] ^= 1 << rnd.Intn(8)
		asPlain(t, b)
		asPlain(t, b[:rnd.Intn(len(b))])
	}
}

// FuzzRead: any bytes end with what the plain one has.
func FuzzRead(f *testing.F) {
	f.Add([]byte{1, 0, 0, 0, 0, 0, 0, 0})
	f.Add([]byte{2, 1, 0, 0, 0, 0, 0, 5, 2, 1, 0, 0, 0, 0, 0})
	f.Add(append([]byte{17}, make([]byte, 7*17)...))
	f.Fuzz(func(t *testing.T, b []byte) { asPlain(t, b) })
}

// FuzzView: whatever is told and asked, in whatever order, others never get older, and me is there.
func FuzzView(f *testing.F) {
	f.Add([]byte{0, 0, 1, 0, 1, 2, 0, 0, 1, 0, 1, 1}, 3)
	f.Add([]byte{3, 1, 0, 0, 6, 1, 0, 0, 0, 1, 1, 1}, 2)
	f.Fuzz(func(t *testing.T, script []byte, nodes int) {
		v, e := member.New(0, nodes)
		if e != api.OK {
			return
		}
		for i := 0; i+3 < min(len(script), 200); i += 4 {
			node, said := int(script[i+1])-1, info(int(script[i+2])-1, int64(script[i+3]))
			was := seen(v)
			switch script[i] % 9 / 3 {
			case 1:
				v.Doubt(node)
			case 2:
				v.Bury(node)
			default:
				v.Hear(node, said)
			}
			for n, now := range seen(v) {
				if member.Newer(was[n], now) || !member.Right(now) || n != node && now != was[n] {
					t.Fatalf("%d: %v becomes %v", n, was[n], now)
				}
			}
			if v.Get(0).State != api.Alive || v.Get(nodes) != info(0, 0) {
				t.Fatalf("mine is %v", v.Get(0))
			}
			asPlain(t, v.Bytes())
		}
	})
}
