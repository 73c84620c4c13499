package mail

import "yieldshape/api"

// Box is a ring: its words lie one behind the other from the cell first on, and go on at cell 0 behind the last cell.
// So neither a put nor a taking moves the words that stay.
type Box struct {
	cells        []int64
	first, count int
}

// New answers an empty box of so many places: ErrRange, if none may have as many.
func New(places int) (*Box, api.Errno) {
	if places < 1 || places > api.MaxCap {
		return nil, api.ErrRange
	}
	return &Box{cells: make([]int64, places)}, api.OK
}

// Full tells whether nothing more goes in.
func (b *Box) Full() bool { return b.count == len(b.cells) }

// Empty tells whether there is nothing to be taken.
func (b *Box) Empty() bool { return b.count == 0 }

// cell is where the i-th word lies, or would lie.
func (b *Box) cell(i int) int { return (b.first + i) % len(b.cells) }

func (b *Box) do(op api.MailOp) api.MailGot {
	switch {
	case op.Put && !b.Full():
		b.Put(op.V)
		return api.MailGot{OK: true}
	case !op.Put && !b.Empty():
		return api.MailGot{OK: true, V: b.Take()}
	}
	return api.MailGot{}
}

// Put lays v at the end; into a box that is full nothing goes.
func (b *Box) Put(v int64) {
	if b.Full() {
		return
	}
	b.cells[b.cell(b.count)] = v
	b.count++
}

// Take takes the first word; from a box that is empty 0 comes.
func (b *Box) Take() int64 {
	if b.Empty() {
		return 0
	}
	v := b.cells[b.first]
	b.first = b.cell(1)
	b.count--
	return v
}

// Words answers those that are in the box, the first one first. They are copied: where they lie in the ring is nobody's to see.
func (b *Box) Words() []int64 {
	var out []int64
	for i := range b.count {
		out = append(out, b.cells[b.cell(i)])
	}
	return out
}
