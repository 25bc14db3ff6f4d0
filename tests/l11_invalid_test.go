package tests

import (
	"fmt"
	"slices"
	"testing"

	"loop.example/g00673/impl"
)

// TestOneInvalidTask has lists with one task that is not valid, at the beginning, in the middle and at the end.
func TestOneInvalidTask(t *testing.T) {
	spoiled := append(invalidTasks(), impl.Task{}, impl.Task{State: 2}, impl.Task{Prog: never, Pc: least, State: never, Why: least, What: never, Timer: least, Reg: never, Group: least, Err: never})
	for _, k := range spoiled {
		checkNoTasks(t, fmt.Sprintf("%+v alone", k), []impl.Task{k})
		for _, length := range []int{2, 3, 60} {
			for _, place := range somePlaces(length) {
				l := variedTasks(length, 5)
				l[place] = k
				checkNoTasks(t, fmt.Sprintf("%+v at %d of %d", k, place, length), l)
			}
		}
	}
}

// TestOneInvalidTaskAtEachPlace has lists of each length.
func TestOneInvalidTaskAtEachPlace(t *testing.T) {
	for _, k := range []impl.Task{{}, {State: 1, Why: 1, Timer: 0}, {Timer: -1, Pc: 13}} {
		for length := 1; length <= 60; length++ {
			for place := range length {
				l := slices.Repeat([]impl.Task{waiter(1, 2)}, length)
				l[place] = k
				checkNoTasks(t, fmt.Sprintf("%+v at %d of %d", k, place, length), l)
			}
		}
	}
}

// TestInvalidTasksOfThisWait calls the functions for what the only invalid task would wait for.
func TestInvalidTasksOfThisWait(t *testing.T) {
	for _, k := range []impl.Task{
		{State: 1, Why: 1, What: 60, Timer: -1},
		{State: 1, Why: 1, What: -1, Timer: -1},
		{State: 1, Why: 1, What: 3, Timer: 0},
		{State: 1, Why: 2, What: 3, Timer: -1},
		{State: 1, Why: 2, What: 3, Timer: 1000001},
		{State: 1, Why: 3, What: 8, Timer: -1},
		{State: 1, Why: 4, What: 8, Timer: -1},
		{State: 1, Why: 0, What: 0, Timer: -1},
		{State: 1, Why: 5, What: 3, Timer: -1},
		{State: 1, Why: 1, What: 3, Timer: -1, Err: 1},
		{State: 1, Why: 1, What: 3, Timer: -1, Pc: 13},
		{State: 0, Why: 1, What: 3, Timer: -1},
		{State: 2, Why: 1, What: 3, Timer: -1},
		{State: 3, Why: 1, What: 3, Timer: -1},
	} {
		for _, l := range [][]impl.Task{{k}, {k, waiter(1, 3)}, {waiter(1, 3), k}, {waiter(1, 3), readyTask(), k, waiter(2, 3), waiter(1, 3)}} {
			checkNoTasks(t, fmt.Sprintf("%+v", l), l)
		}
	}
}

func TestTwoInvalidTasks(t *testing.T) {
	for _, place := range []int{0, 1, 30, 59} {
		for _, other := range []int{0, 1, 30, 59} {
			l := variedTasks(60, 6)
			l[place].Prog = 8
			l[other].Group = 8
			checkNoTasks(t, fmt.Sprint("two of 60, ", place, " and ", other), l)
		}
	}
}

// TestTooManyTasks has lists of valid tasks of the greatest length, of one more, and of many more.
func TestTooManyTasks(t *testing.T) {
	for _, k := range []impl.Task{readyTask(), doneTask(), waiter(1, 0), waiter(2, 59), waiter(3, 7), waiter(4, 0), atTheEnd(waiter(1, 0))} {
		checkTasks(t, slices.Repeat([]impl.Task{k}, 59))
		checkTasks(t, slices.Repeat([]impl.Task{k}, 60))
		for _, length := range []int{61, 62, 64, 65, 120, 128, 256, 257, 316, 10000, 1<<16 + 1} {
			checkNoTasks(t, fmt.Sprintf("%d times %+v", length, k), slices.Repeat([]impl.Task{k}, length))
		}
	}
	for seed := range uint32(50) {
		l := variedTasks(61, seed)
		checkTasks(t, l[:60])
		checkTasks(t, l[1:])
		checkNoTasks(t, "61 varied ones", l)
	}
}

// TestTooManyTasksWithAnInvalidOne has the invalid task in the first 60 places and behind them.
func TestTooManyTasksWithAnInvalidOne(t *testing.T) {
	for _, place := range []int{0, 30, 59, 60} {
		l := variedTasks(61, 7)
		l[place] = impl.Task{}
		checkNoTasks(t, fmt.Sprint("61, an invalid one at ", place), l)
	}
}
