package impl

import "slices"

const MaxSlots = 64
const MaxAge = 1000000

type Slots struct {
	Ages []int64
	Used []bool
}

type Handle struct {
	Slot int64
	Age  int64
}

type stack[T any] struct {
	items []T
}

func (s *stack[T]) push(item T) {
	s.items = append(s.items, item)
}

func (s *stack[T]) pop() (T, bool) {
	if len(s.items) == 0 {
		var none T
		return none, false
	}
	top := len(s.items) - 1
	item := s.items[top]
	s.items = s.items[:top]
	return item, true
}

func SlotsOk(s Slots) bool {
	if len(s.Ages) < 1 || len(s.Ages) > MaxSlots || len(s.Used) != len(s.Ages) {
		return false
	}
	for _, age := range s.Ages {
		if age < 0 || age > MaxAge {
			return false
		}
	}
	return true
}

func NewSlots(n int64) (Slots, bool) {
	if n < 1 || n > MaxSlots {
		return Slots{}, false
	}
	return Slots{Ages: make([]int64, n), Used: make([]bool, n)}, true
}

func Taken(s Slots) (Slots, Handle, bool) {
	if !SlotsOk(s) {
		return Slots{}, Handle{}, false
	}
	result := copyOfSlots(s)
	free := freeHandles(s)
	h, found := free.pop()
	if found {
		result.Used[h.Slot] = true
	}
	return result, h, found
}

func Holds(s Slots, h Handle) bool {
	if !SlotsOk(s) || h.Slot < 0 || h.Slot >= int64(len(s.Ages)) {
		return false
	}
	return s.Used[h.Slot] && handleAt(s, h.Slot) == h
}

func Dropped(s Slots, h Handle) (Slots, bool) {
	if !SlotsOk(s) {
		return Slots{}, false
	}
	result := copyOfSlots(s)
	// A slot that could not grow older would give out the dropped handle again.
	if !Holds(s, h) || h.Age == MaxAge {
		return result, false
	}
	result.Used[h.Slot] = false
	result.Ages[h.Slot]++
	return result, true
}

func UsedIn(s Slots) int64 {
	if !SlotsOk(s) {
		return -1
	}
	count := int64(0)
	for _, used := range s.Used {
		if used {
			count++
		}
	}
	return count
}

func copyOfSlots(s Slots) Slots {
	return Slots{Ages: slices.Clone(s.Ages), Used: slices.Clone(s.Used)}
}

func handleAt(s Slots, slot int64) Handle {
	return Handle{Slot: slot, Age: s.Ages[slot]}
}

// freeHandles pushes the last slot first, so that the first one is on top.
func freeHandles(s Slots) stack[Handle] {
	var free stack[Handle]
	for slot := int64(len(s.Ages)) - 1; slot >= 0; slot-- {
		// A slot of the last age could never be dropped, so it is not given out.
		if !s.Used[slot] && s.Ages[slot] != MaxAge {
			free.push(handleAt(s, slot))
		}
	}
	return free
}
