package sock

import (
	"barbican/api"
)

// Ledger: references, which are counted as sockets are: once while they are held, then not at all.
type Ledger struct {
	counting
	refs   []reference // by number, from 1 on
	held   int
	oldest int // no reference ahead of this place is held
	events []api.Event
}

// reference: what one was acquired with.
type reference struct {
	helper, what int
}

// NewLedger: see P11.2.
func NewLedger() *Ledger { return &Ledger{} }

// Acquire: see P11.2.
func (l *Ledger) Acquire(helper, what int) (int, bool) {
	if l.held >= api.MaxRefs {
		return 0, false
	}
	id := l.begin() + 1
	l.refs = append(l.refs, reference{helper, what})
	l.held++
	l.events = append(l.events, api.Event{Id: id, Helper: helper})
	return id, true
}

// Release: see P11.2.
func (l *Ledger) Release(id, helper int) (int, api.Errno) {
	_, what, ok := l.What(id)
	if !ok {
		return 0, api.ErrSockNone
	}
	l.change(id-1, -1)
	l.held--
	for l.oldest < len(l.refs) && l.counted(l.oldest) == 0 {
		l.oldest++
	}
	l.events = append(l.events, api.Event{Release: true, Id: id, Helper: helper})
	return what, api.OK
}

// What: see P11.2.
func (l *Ledger) What(id int) (int, int, bool) {
	if id < 1 || l.counted(id-1) == 0 {
		return 0, 0, false
	}
	r := l.refs[id-1]
	return r.helper, r.what, true
}

// Held: see P11.2.
func (l *Ledger) Held() []int {
	var ids []int
	for i := l.oldest; i < len(l.refs); i++ {
		if l.counted(i) > 0 {
			ids = append(ids, i+1)
		}
	}
	return ids
}

// Events: see P11.2.
func (l *Ledger) Events() []api.Event {
	events := make([]api.Event, len(l.events))
	copy(events, l.events)
	return events
}
