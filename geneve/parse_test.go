package geneve_test

import (
	"bytes"
	"testing"

	"steelyard/api"
	"steelyard/geneve"
)

func TestParse(t *testing.T) {
	for _, k := range knowns() {
		if u, e := geneve.Parse(k.b); !alike(u, k.t) || e != api.OK {
			t.Errorf("%s: Parse = %v, %d; want %v", k.name, u, e, k.t)
		}
	}
}

// refused: are bytes refused with that error, and nothing else told?
func refused(t *testing.T, name string, b []byte, want api.Errno) {
	t.Helper()
	if u, e := geneve.Parse(b); e != want || !alike(u, geneve.Tunnel{}) {
		t.Errorf("%s: Parse(%x) = %v, %d; want %d", name, b, u, e, want)
	}
}

func TestParseOfFewerAndMore(t *testing.T) {
	for _, k := range knowns() {
		head := len(k.b) - len(k.t.Inner)
		for n := range head {
			refused(t, k.name, k.b[:n], api.ErrShort)
		}
		for n := head; n <= len(k.b); n++ { // nothing says how much is within
			u := k.t
			u.Inner = k.b[head:n]
			if back, e := geneve.Parse(k.b[:n]); !alike(back, u) || e != api.OK {
				t.Errorf("%s: Parse of %d bytes = %v, %d", k.name, n, back, e)
			}
		}
		more := append(bytes.Clone(k.b), "more"...)
		k.t.Inner = more[head:]
		if u, e := geneve.Parse(more); !alike(u, k.t) || e != api.OK {
			t.Errorf("%s: Parse of more = %v, %d", k.name, u, e)
		}
	}
	refused(t, "nil", nil, api.ErrShort)
}

func TestParseOfWhatIsNotAsItMustBe(t *testing.T) {
	for _, k := range knowns() {
		for _, version := range []byte{1, 2, 3} {
			b := bytes.Clone(k.b)
			b[0] |= version << 6
			refused(t, k.name+", version", b, api.ErrVersion)
		}
		for bit := range 6 {
			b := bytes.Clone(k.b)
			b[1] |= 1 << bit
			refused(t, k.name+", six bits", b, api.ErrForm)
		}
		for n := 1; n < 256; n++ {
			b := bytes.Clone(k.b)
			b[7] = byte(n)
			refused(t, k.name+", last byte", b, api.ErrForm)
		}
		b := bytes.Clone(k.b)
		b[1] ^= 0x40
		refused(t, k.name+", critical", b, api.ErrForm)
		b[1] ^= 0xc0 // Oam turned alone is another tunnel
		k.t.Oam = !k.t.Oam
		if u, e := geneve.Parse(b); !alike(u, k.t) || e != api.OK {
			t.Errorf("%s: Oam turned: %v, %d", k.name, u, e)
		}
	}
}

func TestParseOfOptionsThatAreNotAsTheyMustBe(t *testing.T) {
	for _, c := range []struct {
		name  string
		want  api.Errno
		spoil func(b []byte)
	}{
		{"the first one of the three bits", api.ErrForm, func(b []byte) { b[11] |= 0x80 }},
		{"the second one", api.ErrForm, func(b []byte) { b[11] |= 0x40 }},
		{"the third one", api.ErrForm, func(b []byte) { b[11] |= 0x20 }},
		{"of the second option", api.ErrForm, func(b []byte) { b[15] |= 0x20 }},
		{"more data than options", api.ErrShort, func(b []byte) { b[11] = 4 }},
		{"the most data", api.ErrShort, func(b []byte) { b[11] = 31 }},
		{"one word more in the last one", api.ErrShort, func(b []byte) { b[15] = 3 }},
		{"data that are an option with a bit", api.ErrForm, func(b []byte) { b[15] = 1 }},
		{"data that are an option of too much data", api.ErrShort, func(b []byte) { b[15], b[23] = 1, 1 }},
		{"data that are an option, and one of too much data", api.ErrShort, func(b []byte) { b[15], b[19] = 0, 2 }},
		{"one word less of options", api.ErrShort, func(b []byte) { b[0] = 3 }},
		{"one word more of options", api.ErrShort, func(b []byte) { b[0] = 5 }},
		{"options of more than there is", api.ErrShort, func(b []byte) { b[0] = 6 }},
		{"most options", api.ErrShort, func(b []byte) { b[0] = 63 }},
		{"a critical one that is not told", api.ErrForm, func(b []byte) { b[10] = 128 }},
		{"a last one that is not told", api.ErrForm, func(b []byte) { b[14] = 255 }},
		{"both not told", api.ErrForm, func(b []byte) { b[10], b[14] = 128, 128 }},
		{"one told that is not", api.ErrForm, func(b []byte) { b[1] |= 0x40 }},
	} {
		k := two()
		k.b[19], k.b[23] = 1, 0xe0
		c.spoil(k.b)
		refused(t, c.name, k.b, c.want)
		thereAndBack(t, k.b)
	}
}

// TestParseTellsTheFirstError spoils a tunnel more and more, from what is asked last on.
func TestParseTellsTheFirstError(t *testing.T) {
	k := two()
	k.b[1] |= 0x40
	refused(t, "critical", k.b, api.ErrForm)
	k.b[15] = 3
	refused(t, "too few data of the second option", k.b, api.ErrShort)
	k.b[15] |= 0x20
	refused(t, "one of its bits, too", k.b, api.ErrShort)
	k.b[11] |= 0x80
	refused(t, "a bit of the first option", k.b, api.ErrForm)
	k.b[11] |= 31
	refused(t, "too few data of the first option", k.b, api.ErrShort)
	k.b[11] = 0x80
	k.b[0] = 63
	refused(t, "too few options", k.b, api.ErrShort)
	k.b[7] = 1
	refused(t, "the last byte", k.b, api.ErrForm)
	k.b[7] = 0
	k.b[1] |= 1
	refused(t, "one of the six bits", k.b, api.ErrForm)
	k.b[0] = 0x7f
	refused(t, "the version", k.b, api.ErrVersion)
	refused(t, "fewer than 8", k.b[:7], api.ErrShort)
}

// TestMostBytes: nothing says how many bytes a tunnel may have where it is read; what has more than MaxBytes is not written.
func TestMostBytes(t *testing.T) {
	for _, n := range []int{api.MaxBytes - 1, api.MaxBytes, api.MaxBytes + 1, 2 * api.MaxBytes} {
		b := make([]byte, n)
		if u, e := geneve.Parse(b); e != api.OK || len(u.Inner) != n-8 {
			t.Errorf("Parse of %d bytes: %d within, %d", n, len(u.Inner), e)
		}
		thereAndBack(t, b)
	}
}

func TestParseSharesNoMemory(t *testing.T) {
	for _, k := range knowns() {
		given := append(make([]byte, 0, 2*len(k.b)), k.b...)
		u, _ := geneve.Parse(given)
		same, _ := geneve.Parse(given)
		for i := range u.Opts {
			_ = append(u.Opts[i].Data, "!!!!!!!!!!!!"...)
		}
		_ = append(u.Opts, geneve.Opt{Class: 9})
		_ = append(u.Inner, "!!!!!!!!!!!!"...)
		if !alike(u, k.t) {
			t.Errorf("%s: behind what was appended: %v", k.name, u)
		}
		for i := range u.Opts { // each part's change is seen in no other part
			clear(u.Opts[i].Data)
			for j := i + 1; j < len(u.Opts); j++ {
				if !bytes.Equal(u.Opts[j].Data, k.t.Opts[j].Data) {
					t.Errorf("%s: behind a change of data: %v", k.name, u)
				}
			}
		}
		if !bytes.Equal(u.Inner, k.t.Inner) {
			t.Errorf("%s: behind a change of options: %v", k.name, u)
		}
		clear(u.Inner)
		clear(u.Opts)
		if !bytes.Equal(given, k.b) || !alike(same, k.t) {
			t.Errorf("%s: behind a change of an answer: %x, %v", k.name, given, same)
		}
		clear(given)
		if !alike(same, k.t) {
			t.Errorf("%s: behind a change of what was given: %v", k.name, same)
		}
	}
}

// FuzzParse: any bytes are read as the plain one reads them, and written as they were.
func FuzzParse(f *testing.F) {
	for _, k := range knowns() {
		f.Add(k.b)
	}
	f.Fuzz(func(t *testing.T, b []byte) {
		thereAndBack(t, b)
		geneve.Kind(b)
	})
}
