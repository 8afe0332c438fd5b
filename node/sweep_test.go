package node

import (
	"testing"

	"steelyard/api"
	"steelyard/tuple"
)

// TestSweeps: a tick leaves no flow in the store that lives no more. From outside it can't be seen, as none but those that live are told.
func TestSweeps(t *testing.T) {
	x, _ := New(0, Conf{Nodes: 1, Slots: 7, Flows: 10, Mtu: 1500})
	x.Admin(api.Cmd{Kind: api.CmdAdd, Backend: 2, Weight: 1})
	for i := range 5 {
		b, e := tuple.Make(api.Tuple{Proto: api.Tcp, SrcPort: i}, api.Rst*(i%2), nil)
		if e != api.OK {
			t.Fatal("Make:", e)
		}
		x.Packet(b)
	}
	for range 61 {
		x.Tick()
	}
	if n := x.self.Sweep(x.Now()); n != 0 {
		t.Errorf("%d flows stood there still", n)
	}
}
