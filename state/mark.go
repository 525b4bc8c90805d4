package state

import (
	"slices"

	"waybill/api"
)

// undos undo the changes since a mark was set, up to the next mark, in the changes' order.
type undos []func(*State)

// Snapshot marks the state as it is.
func (s *State) Snapshot() int {
	if s == nil {
		return 0
	}
	s.marks = append(s.marks, nil)
	return len(s.marks) - 1
}

// Revert brings the state back to a mark.
func (s *State) Revert(mark int) api.Errno {
	switch {
	case s == nil:
		return api.ErrArg
	case mark < 0 || mark >= len(s.marks):
		return api.ErrStMark
	}
	for _, since := range slices.Backward(s.marks[mark:]) {
		for _, undo := range slices.Backward(since) {
			undo(s)
		}
	}
	s.marks = slices.Delete(s.marks, mark, len(s.marks))
	return api.OK
}

// remember keeps what undoes a change that is about to be made. Without a mark nothing ever asks for it.
func (s *State) remember(undo func(*State)) {
	if last := len(s.marks) - 1; last >= 0 {
		s.marks[last] = append(s.marks[last], undo)
	}
}
