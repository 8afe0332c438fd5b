package fleet

import "steelyard/api"

// letter is bytes from one replica to another one.
type letter struct {
	from, to int
	data     []byte
}

// place: that of the letter that a number means; false, if none is on its way.
func (f *Fleet) place(n int) (int, bool) {
	many := len(f.flight)
	if many == 0 {
		return 0, false
	}
	return (n%many + many) % many, true
}

// post: a letter is the last one that is on its way; without room it is lost.
func (f *Fleet) post(l letter) {
	if len(f.flight) < api.MaxFlight {
		f.flight = append(f.flight, l)
	}
}

// take: the letter at a place is on its way no more. Those ahead of it move up, as most often it is one of the first.
func (f *Fleet) take(k int) letter {
	l := f.flight[k]
	copy(f.flight[1:k+1], f.flight[:k])
	f.flight[0] = letter{} // its bytes need no memory any more
	f.flight = f.flight[1:]
	return l
}

// arrive: the letter at a place does, at its replica; what is seen of that.
func (f *Fleet) arrive(k int) []Seen {
	l := f.take(k)
	return f.saw(l.to, f.Node(l.to).Letter(l.from, l.data))
}

// deliver: the letter of a number arrives.
func (f *Fleet) deliver(n int) []Seen {
	k, ok := f.place(n)
	if !ok {
		return nil
	}
	return f.arrive(k)
}

// lose: the letter of a number never arrives.
func (f *Fleet) lose(n int) {
	if k, ok := f.place(n); ok {
		f.take(k)
	}
}

// double: the letter of a number is there once more.
func (f *Fleet) double(n int) {
	if k, ok := f.place(n); ok {
		f.post(f.flight[k])
	}
}
