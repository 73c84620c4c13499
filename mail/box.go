package mail

import "yieldshape/api"

// box is a ring: its words lie one behind the other from the cell first on, and go on at cell 0 behind the last cell.
// So neither a put nor a taking moves the words that stay.
type box struct {
	cells        []int64
	first, count int
}

// cell is where the i-th word lies, or would lie.
func (b *box) cell(i int) int { return (b.first + i) % len(b.cells) }

func (b *box) do(op api.MailOp) api.MailGot {
	if op.Put {
		return api.MailGot{OK: b.put(op.V)}
	}
	v, ok := b.take()
	return api.MailGot{OK: ok, V: v}
}

func (b *box) put(v int64) bool {
	if b.count == len(b.cells) {
		return false
	}
	b.cells[b.cell(b.count)] = v
	b.count++
	return true
}

func (b *box) take() (int64, bool) {
	if b.count == 0 {
		return 0, false
	}
	v := b.cells[b.first]
	b.first = b.cell(1)
	b.count--
	return v, true
}

// words are copied in their order: where they lie in the ring is nobody's to see.
func (b *box) words() []int64 {
	var out []int64
	for i := range b.count {
		out = append(out, b.cells[b.cell(i)])
	}
	return out
}
