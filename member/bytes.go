package member

import (
	"steelyard/api"
	"steelyard/cursor"
)

// How many bytes numbers have.
const (
	sizeCount = 1
	sizeState = 1
	sizeInc   = 6
)

// Bytes: a view as bytes.
func (v *View) Bytes() []byte {
	if v == nil {
		return nil
	}
	var l []Info
	for _, i := range v.all() {
		l = append(l, i)
	}
	return put(l)
}

// put: how some are seen, as bytes.
func put(l []Info) []byte {
	ops := []cursor.Op{{Kind: cursor.Num, Size: sizeCount}}
	vals := []cursor.Val{{N: uint64(len(l))}}
	for _, i := range l {
		ops = append(ops, cursor.Op{Kind: cursor.Num, Size: sizeState}, cursor.Op{Kind: cursor.Num, Size: sizeInc})
		vals = append(vals, cursor.Val{N: uint64(i.State)}, cursor.Val{N: uint64(i.Inc)})
	}
	b, _ := cursor.Lay(vals, ops) // what a view has goes into its bytes always
	return b
}

// Read: how all are in some bytes.
func Read(b []byte) ([]Info, api.Errno) {
	r := cursor.New(b)
	var l []Info
	for range r.Num(sizeCount) {
		l = append(l, Info{State: int(r.Num(sizeState)), Inc: int64(r.Num(sizeInc))})
	}
	if e := r.End(); e != api.OK {
		return nil, e
	}
	if !rightList(l) {
		return nil, api.ErrForm
	}
	return l, api.OK
}

// rightList: can they be all replicas?
func rightList(l []Info) bool {
	if len(l) < 1 || len(l) > api.MaxNodes {
		return false
	}
	for _, i := range l {
		if !Right(i) {
			return false
		}
	}
	return true
}
