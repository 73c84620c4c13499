package vm

// Box is what a task sends to and receives from: one of package mail, or a list.
// Put is asked only of one that isn't full, Take only of one that isn't empty.
type Box interface {
	Full() bool
	Empty() bool
	Put(v int64)
	Take() int64
}

// list is a box of a task that runs by itself: what it sends doesn't come back to it, but is noted.
type list struct {
	feed []int64
	took int
	sent []int64
}

func (l *list) Full() bool { return false }

func (l *list) Empty() bool { return l.took == len(l.feed) }

func (l *list) Put(v int64) { l.sent = append(l.sent, v) }

func (l *list) Take() int64 {
	l.took++
	return l.feed[l.took-1]
}
