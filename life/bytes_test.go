package life_test

import (
	"bytes"
	"encoding/binary"
	"math"
	"math/rand"
	"slices"
	"testing"

	"steelyard/api"
	"steelyard/life"
)

// Where some of the bytes are.
const (
	atLife    = 6
	atStamp   = 7
	atBy      = 13
	atVersion = 14
	atAddr    = 15
	atWeight  = 31
	atCount   = 39
	atVotes   = 40
)

// known is a Rec and its bytes.
type known struct {
	r life.Rec
	b []byte
}

func knowns() []known {
	voted := but(simple(), func(r *life.Rec) {
		r.Gen, r.Life, r.Done = 0x0203040506, api.Draining, 0x8102
		r.Spec = life.Spec{Stamp: 0xfffefdfcfb, By: 15, Addr: six(0xfd, 1, 2, 3, 4, 5, 6, 7, 8, 9, 10, 11, 12, 13, 14, 15), Weight: 0.1}
		r.Votes = votes{{0x0a0b0c0d0e, true}, {}, {api.MaxTicks, false}}
	})
	return []known{
		{life.Rec{}, append([]byte{0, 0, 0, 0, 0, 0, 0, 0, 0, 0, 0, 0, 0, 0, 4}, make([]byte, 27)...)},
		{simple(), []byte{
			0, 0, 0, 0, 0, 1, 1, // Gen, Life
			0, 0, 0, 0, 0, 5, 2, // Stamp, By
			4, 10, 1, 0, 2, 0, 0, 0, 0, 0, 0, 0, 0, 0, 0, 0, 0,
			0x3f, 0xf0, 0, 0, 0, 0, 0, 0, // Weight
			0,    // votes
			0, 0, // Done
		}},
		{voted, []byte{
			0, 2, 3, 4, 5, 6, 2,
			0, 0xff, 0xfe, 0xfd, 0xfc, 0xfb, 15,
			6, 0xfd, 1, 2, 3, 4, 5, 6, 7, 8, 9, 10, 11, 12, 13, 14, 15,
			0x3f, 0xb9, 0x99, 0x99, 0x99, 0x99, 0x99, 0x9a,
			3,
			0, 10, 11, 12, 13, 14, 1,
			0, 0, 0, 0, 0, 0, 0,
			1, 0, 0, 0, 0, 0, 0,
			0x81, 2,
		}},
	}
}

func TestPutAndGet(t *testing.T) {
	for _, k := range knowns() {
		if b, e := life.Put(k.r); !bytes.Equal(b, k.b) || e != api.OK {
			t.Errorf("Put(%v) = %x, %d, want %x", k.r, b, e, k.b)
		}
		if r, e := life.Get(k.b); !life.Same(r, k.r) || e != api.OK {
			t.Errorf("Get(%x) = %v, %d, want %v", k.b, r, e, k.r)
		}
	}
}

// TestAsItWas is P12.6, and P6, of those at the edges and by chance.
func TestAsItWas(t *testing.T) {
	rnd := rand.New(rand.NewSource(4))
	l := rights()
	for range 5000 {
		l = append(l, some(rnd))
	}
	for _, r := range l {
		b, e := life.Put(r)
		if len(b) != 42+7*len(r.Votes) || e != api.OK {
			t.Fatalf("Put(%v) = %x, %d", r, b, e)
		}
		if back, e := life.Get(b); !life.Same(back, r) || e != api.OK {
			t.Fatalf("Get(Put(%v)) = %v, %d", r, back, e)
		}
		b[rnd.Intn(len(b))] ^= 1 << rnd.Intn(8)
		asPlain(t, b)
		if rnd.Intn(2) == 0 {
			b = b[:rnd.Intn(len(b))]
		} else {
			b = append(b, byte(rnd.Intn(3)))
		}
		asPlain(t, b)
	}
}

func TestPutOfWhatCanNotBe(t *testing.T) {
	for _, r := range wrongs() {
		if b, e := life.Put(r); len(b) != 0 || e != api.ErrArg {
			t.Errorf("Put(%v) = %x, %d", short(r), b, e)
		}
	}
}

// plainGet is Get by the document's words: what is there is asked place by place.
func plainGet(b []byte) (life.Rec, api.Errno) {
	num := func(at, size int) int64 {
		var n [8]byte
		copy(n[8-size:], b[at:at+size])
		return int64(binary.BigEndian.Uint64(n[:]))
	}
	if len(b) <= atVersion {
		return life.Rec{}, api.ErrShort
	}
	if b[atVersion] != 4 && b[atVersion] != 6 {
		return life.Rec{}, api.ErrVersion
	}
	if len(b) <= atCount {
		return life.Rec{}, api.ErrShort
	}
	r := life.Rec{Gen: num(0, 6), Life: int(b[atLife]), Spec: life.Spec{Stamp: num(atStamp, 6), By: int(b[atBy])}}
	r.Spec.Addr = four(b[atAddr:atWeight]...)
	r.Spec.Addr.V6 = b[atVersion] == 6
	r.Spec.Weight = math.Float64frombits(binary.BigEndian.Uint64(b[atWeight:]))
	at := atVotes
	for range int(b[atCount]) {
		if len(b) < at+7 {
			return life.Rec{}, api.ErrShort
		}
		if b[at+6] > 1 {
			return life.Rec{}, api.ErrForm
		}
		r.Votes = append(r.Votes, life.Vote{Stamp: num(at, 6), Ok: b[at+6] == 1})
		at += 7
	}
	if len(b) < at+2 {
		return life.Rec{}, api.ErrShort
	}
	r.Done = int(num(at, 2))
	if len(b) > at+2 || !life.Right(r) {
		return life.Rec{}, api.ErrForm
	}
	return r, api.OK
}

// asPlain fails unless Get answers as the plain one does, and Put writes what it takes as it was.
func asPlain(t *testing.T, b []byte) {
	t.Helper()
	want, f := plainGet(b)
	r, e := life.Get(b)
	if !life.Same(r, want) || e != f {
		t.Fatalf("Get(%x) = %v, %d, want %v, %d", b, r, e, want, f)
	}
	if e != api.OK {
		return
	}
	if back, e := life.Put(r); !bytes.Equal(back, b) || e != api.OK {
		t.Fatalf("Put(Get(%x)) = %x, %d", b, back, e)
	}
}

// refused fails unless Get answers this error and nothing else.
func refused(t *testing.T, name string, b []byte, want api.Errno) {
	t.Helper()
	if r, e := life.Get(b); !life.Same(r, life.Rec{}) || e != want {
		t.Errorf("%s: Get(%x) = %v, %d, want %d", name, b, r, e, want)
	}
}

func TestGetOfFewerAndMore(t *testing.T) {
	for _, k := range knowns() {
		for n := range k.b {
			refused(t, "cut", k.b[:n], api.ErrShort)
		}
		refused(t, "one more", append(bytes.Clone(k.b), 0), api.ErrForm)
		refused(t, "many more", append(bytes.Clone(k.b), make([]byte, 70000)...), api.ErrForm)
	}
	refused(t, "nil", nil, api.ErrShort)
}

// TestGetOfEachByte: each byte of some is each byte there is.
func TestGetOfEachByte(t *testing.T) {
	for _, k := range knowns() {
		for i := range k.b {
			for n := range 256 {
				b := bytes.Clone(k.b)
				b[i] = byte(n)
				asPlain(t, b)
			}
		}
	}
}

// TestGetOfWhatCanNotBe: bytes as Put has them, of what can't be.
func TestGetOfWhatCanNotBe(t *testing.T) {
	word := func(at int, b ...byte) func([]byte) {
		return func(to []byte) { copy(to[at:], b) }
	}
	weight := func(w float64) func([]byte) {
		return word(atWeight, binary.BigEndian.AppendUint64(nil, math.Float64bits(w))...)
	}
	for _, c := range []struct {
		name  string
		spoil func(b []byte)
	}{
		{"Gen 0 of a backend", word(0, 0, 0, 0, 0, 0, 0)},
		{"Gen above MaxTicks", word(0, 1, 0, 0, 0, 0, 1)},
		{"the greatest Gen", word(0, 255, 255, 255, 255, 255, 255)},
		{"Life 0", word(atLife, 0)},
		{"Life 4", word(atLife, 4)},
		{"Life 255", word(atLife, 255)},
		{"Stamp 0", word(atStamp, 0, 0, 0, 0, 0, 0)},
		{"Stamp above MaxTicks", word(atStamp, 1, 0, 0, 0, 0, 1)},
		{"By 16", word(atBy, 16)},
		{"By 255", word(atBy, 255)},
		{"an address of four of six bytes", word(atVersion, 4)},
		{"-0", weight(minusZ())},
		{"below 0", weight(-1)},
		{"infinity", weight(inf())},
		{"-infinity", weight(math.Inf(-1))},
		{"NaN", weight(nan())},
		{"another NaN", weight(math.Float64frombits(0xfff0<<48 | 1))},
		{"Ok of no vote", word(atVotes+13, 1)},
		{"a last one that is no vote", word(atVotes+14, 0)},
		{"a stamp above MaxTicks", word(atVotes+19, 1)},
	} {
		b := bytes.Clone(knowns()[2].b)
		c.spoil(b)
		refused(t, c.name, b, api.ErrForm)
	}
	for n := atAddr; n < atWeight; n++ {
		for _, k := range knowns()[:2] {
			b := bytes.Clone(k.b)
			b[n] = 1
			if n >= atAddr+4 || k.r.Gen == 0 {
				refused(t, "a byte of an address of four", b, api.ErrForm)
			} else if _, e := life.Get(b); e != api.OK {
				t.Errorf("Get(%x): %d", b, e)
			}
		}
	}
	nothing := knowns()[0].b
	for i := range nothing {
		b := bytes.Clone(nothing)
		if b[i]++; i != atVersion && i != atCount {
			refused(t, "of Gen 0, or of no Life", b, api.ErrForm)
		}
	}
	b := bytes.Clone(nothing)
	b[atVersion] = 6
	refused(t, "of Gen 0 an address of six", b, api.ErrForm)
	refused(t, "of Gen 0 no vote", withVotes(nothing, 1, 0), api.ErrForm)
}

// withVotes: bytes with so many votes, each of the stamp 256 and an Ok.
func withVotes(b []byte, n int, ok byte) []byte {
	vote := []byte{0, 0, 0, 0, 1, 0, ok}
	return slices.Concat(b[:atCount], []byte{byte(n)}, bytes.Repeat(vote, n), b[len(b)-2:])
}

// TestGetOfManyVotes: as many as there may be, and more; that they are more is seen behind all else.
func TestGetOfManyVotes(t *testing.T) {
	simple := knowns()[1].b
	for n := range 256 {
		b := withVotes(simple, n, 1)
		if n <= 16 {
			r, e := life.Get(b)
			if len(r.Votes) != n || e != api.OK {
				t.Errorf("Get of %d votes = %v, %d", n, r, e)
			}
			asPlain(t, b)
			continue
		}
		refused(t, "too many votes", b, api.ErrForm)
		refused(t, "too many votes that are cut", b[:len(b)-1], api.ErrShort)
		refused(t, "too many votes of too few", b[:atVotes+7*16], api.ErrShort)
	}
	for n := range 16 {
		for _, ok := range []byte{2, 3, 128, 255} {
			b := withVotes(simple, 16, 0)
			b[atVotes+7*n+6] = ok
			refused(t, "an Ok above 1", b, api.ErrForm)
			refused(t, "an Ok above 1, and cut behind it", b[:atVotes+7*n+7], api.ErrForm)
			refused(t, "cut ahead of it", b[:atVotes+7*n+6], api.ErrShort)
		}
	}
}

// TestGetTellsTheFirstError spoils bytes more and more, from what is asked last on.
func TestGetTellsTheFirstError(t *testing.T) {
	b := bytes.Clone(knowns()[2].b)
	b[atLife], b[atBy] = 9, 200
	refused(t, "what is read can't be", b, api.ErrForm)
	b = b[:len(b)-1]
	refused(t, "cut", b, api.ErrShort)
	b[atVotes+6] = 2
	refused(t, "an Ok above 1", b, api.ErrForm)
	b[atVersion] = 5
	refused(t, "neither 4 nor 6", b, api.ErrVersion)
	refused(t, "neither 4 nor 6, and nothing behind", b[:atVersion+1], api.ErrVersion)
	refused(t, "nothing there to be 4 or 6", b[:atVersion], api.ErrShort)
	for n := range 256 {
		for _, k := range knowns() {
			b := bytes.Clone(k.b)
			if b[atVersion] = byte(n); n != 4 && n != 6 {
				refused(t, "neither 4 nor 6", b, api.ErrVersion)
				refused(t, "neither 4 nor 6, and more", append(b, 0), api.ErrVersion)
			}
		}
	}
}

// TestBytesShareNothing: what is handed in isn't changed or kept, and no answer shares memory with another one.
func TestBytesShareNothing(t *testing.T) {
	k := knowns()[2]
	r, _ := life.Get(k.b)
	again, _ := life.Get(k.b)
	x, _ := life.Put(r)
	y, _ := life.Put(r)
	if !life.Same(r, k.r) || !bytes.Equal(k.b, knowns()[2].b) {
		t.Fatalf("behind Put and Get: %v, %x", r, k.b)
	}
	clear(k.b)
	clear(x)
	clear(r.Votes)
	if !bytes.Equal(y, knowns()[2].b) || !life.Same(again, knowns()[2].r) {
		t.Errorf("behind changes: %x, %v", y, again)
	}
}

// FuzzGet: any bytes end with what the plain one has.
func FuzzGet(f *testing.F) {
	for _, k := range knowns() {
		f.Add(k.b)
	}
	f.Add(withVotes(knowns()[1].b, 17, 1))
	f.Fuzz(func(t *testing.T, b []byte) { asPlain(t, b) })
}

// FuzzJoin: any bytes that are what is known of a backend are joined as the plain one has it.
func FuzzJoin(f *testing.F) {
	for _, k := range knowns() {
		f.Add(k.b, knowns()[1].b)
		f.Add(k.b, withVotes(knowns()[1].b, 16, 1))
	}
	f.Fuzz(func(t *testing.T, b, c []byte) {
		x, e := life.Get(b)
		y, g := life.Get(c)
		if e == api.OK && g == api.OK {
			joined(t, x, y, plainJoin(x, y))
		}
	})
}
