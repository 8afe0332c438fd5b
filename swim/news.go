package swim

import (
	"steelyard/cursor"
	"steelyard/gossip"
	"steelyard/member"
)

// How many bytes news have.
const (
	sizeState = 1
	sizeInc   = 7
	sizeNews  = sizeState + sizeInc
)

// sending answers what is sent while f goes on, in that order. A message takes along what is to be told just when it is sent.
func (s *Swim) sending(f func(send func(Msg))) []Msg {
	var sent []Msg
	f(func(m Msg) {
		m.From, m.News = s.me, s.pick()
		sent = append(sent, m)
	})
	return sent
}

// tell: how one is seen now waits to be told.
func (s *Swim) tell(node int) {
	s.news.Put(node, bytesOf(s.view.Get(node)), gossip.Times(s.nodes)) // there is room for all replicas
}

// pick: what is told along with one message.
func (s *Swim) pick() []Item {
	var l []Item
	for _, n := range s.news.Pick(sizeNews * Most) {
		l = append(l, Item{Node: n.Key, Info: infoOf(n.Data)})
	}
	return l
}

// bytesOf: how one is seen, as news have it.
func bytesOf(i member.Info) []byte {
	b, _ := cursor.Lay([]cursor.Val{{N: uint64(i.State)}, {N: uint64(i.Inc)}}, []cursor.Op{{Kind: cursor.Num, Size: sizeState}, {Kind: cursor.Num, Size: sizeInc}})
	return b
}

// infoOf: how one is seen, of what bytesOf made.
func infoOf(b []byte) member.Info {
	r := cursor.New(b)
	return member.Info{State: int(r.Num(sizeState)), Inc: int64(r.Num(sizeInc))}
}
