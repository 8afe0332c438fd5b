package letter

import (
	"steelyard/api"
	"steelyard/cursor"
	"steelyard/pool"
	"steelyard/swim"
)

// body is what a letter of one kind has, and one of another kind has not.
type body interface {
	right() bool   // can it be?
	lay(p *pieces) // its bytes, if it can
}

// The bodies, of each kind one.
type (
	message swim.Msg
	updates []pool.Update
	marks   []pool.Mark
	asked   Asked
	answer  Answer
)

// bodyOf: what a letter has of its own kind; nil, if there is no such kind.
func bodyOf(l Letter) body {
	switch l.Kind {
	case Member:
		return message(l.Swim)
	case Updates:
		return updates(l.Updates)
	case Marks:
		return marks(l.Marks)
	case Ask:
		return asked(l.Ask)
	case Told:
		return answer(l.Told)
	}
	return nil
}

// letterOf: the letter that has this body alone.
func letterOf(x body) Letter {
	switch x := x.(type) {
	case message:
		return Letter{Kind: Member, Swim: swim.Msg(x)}
	case updates:
		return Letter{Kind: Updates, Updates: x}
	case marks:
		return Letter{Kind: Marks, Marks: x}
	case asked:
		return Letter{Kind: Ask, Ask: Asked(x)}
	case answer:
		return Letter{Kind: Told, Told: Answer(x)}
	}
	return Letter{}
}

// alone: is all of a letter that is not of its kind 0, none?
func alone(l Letter) bool {
	return (l.Kind == Member || noMessage(l.Swim)) &&
		(l.Kind == Updates || len(l.Updates) == 0) &&
		(l.Kind == Marks || len(l.Marks) == 0) &&
		(l.Kind == Ask || l.Ask == Asked{}) &&
		(l.Kind == Told || l.Told == Answer{})
}

// noMessage: is there nothing in it?
func noMessage(m swim.Msg) bool {
	return m.Kind == 0 && m.To == 0 && m.From == 0 && m.Seq == 0 && m.Target == 0 && len(m.News) == 0
}

// read: bytes as a body of that kind; nil, if they can't be read as one, or there is more behind it. Whether it can be is for it to say.
func read(kind int, b []byte) body {
	r := cursor.New(b)
	x := readKind(kind, r)
	if r.End() != api.OK {
		return nil
	}
	return x
}

func readKind(kind int, r *cursor.Reader) body {
	switch kind {
	case Member:
		return readMessage(r)
	case Updates:
		return readUpdates(r)
	case Marks:
		return readMarks(r)
	case Ask:
		return readAsked(r)
	case Told:
		return readAnswer(r)
	}
	return nil
}

// pieces is those that bytes are laid of.
type pieces struct {
	ops  []cursor.Op
	vals []cursor.Val
}

func (p *pieces) num(size int, n uint64) {
	p.add(cursor.Op{Kind: cursor.Num, Size: size}, cursor.Val{N: n})
}

func (p *pieces) take(b []byte) {
	p.add(cursor.Op{Kind: cursor.Take, Size: len(b)}, cursor.Val{B: b})
}

func (p *pieces) add(o cursor.Op, v cursor.Val) {
	p.ops = append(p.ops, o)
	p.vals = append(p.vals, v)
}

// bytes: those of all pieces; of a letter that can be they always go into them.
func (p *pieces) bytes() []byte {
	b, _ := cursor.Lay(p.vals, p.ops)
	return b
}
