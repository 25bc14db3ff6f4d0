package tests

import (
	"math/big"
	"slices"
	"testing"

	"loop.example/g00673/impl"
)

// endTimes are the times at which a sum or a difference first leaves the range.
func endTimes() []int64 {
	return []int64{least, least + 1, -1, 0, 1, never - 1, never}
}

// manyTimes are rising times, close to each place at which a wrapped result changes its sign.
func manyTimes() []int64 {
	list := endTimes()
	for near := int64(-3); near <= 3; near++ {
		for _, middle := range []int64{least / 2, 0, never / 2, -1 << 32, 1 << 32, 1 << 31, -1 << 31} {
			list = append(list, middle+near)
		}
		if near >= 0 {
			list = append(list, least+near, never-near)
		}
	}
	slices.Sort(list)
	return slices.Compact(list)
}

// variedTimes are times of all sizes, the same ones in every run.
func variedTimes(count int) []int64 {
	number := uint64(2)
	list := make([]int64, count)
	for i := range list {
		number = number*6364136223846793005 + 1442695040888963407
		list[i] = int64(number) >> ((number >> 32) % 64)
	}
	return list
}

func fromZeroOn(list []int64) []int64 {
	return slices.DeleteFunc(slices.Clone(list), func(at int64) bool { return at < 0 })
}

// nearest returns the number itself, or the end of the range that it passes.
func nearest(number *big.Int) int64 {
	switch {
	case number.Cmp(big.NewInt(never)) > 0:
		return never
	case number.Cmp(big.NewInt(least)) < 0:
		return least
	}
	return number.Int64()
}

func trueSum(t, d int64) int64 {
	return nearest(new(big.Int).Add(big.NewInt(t), big.NewInt(d)))
}

func trueDifference(t, u int64) int64 {
	return nearest(new(big.Int).Sub(big.NewInt(u), big.NewInt(t)))
}

func checkPair(t *testing.T, a, b int64) {
	t.Helper()
	if got, want := impl.Later(a, b), trueSum(a, b); got != want {
		t.Errorf("Later(%d, %d) is %d, not %d", a, b, got, want)
	}
	if got, want := impl.Between(a, b), trueDifference(a, b); got != want {
		t.Errorf("Between(%d, %d) is %d, not %d", a, b, got, want)
	}
}

func TestPromise2AtTheEnds(t *testing.T) {
	for _, a := range endTimes() {
		for _, b := range endTimes() {
			checkPair(t, a, b)
		}
	}
}

func TestPromise2InEveryPair(t *testing.T) {
	list := append(manyTimes(), variedTimes(300)...)
	for _, a := range list {
		for _, b := range list {
			checkPair(t, a, b)
		}
	}
}

// TestPromise2AroundTheEnds chooses the second number so that the true result is at most 3 away from an end.
func TestPromise2AroundTheEnds(t *testing.T) {
	for _, a := range append(manyTimes(), variedTimes(300)...) {
		for _, end := range []int64{least, never} {
			for near := int64(-3); near <= 3; near++ {
				target := new(big.Int).Add(big.NewInt(end), big.NewInt(near))
				checkPair(t, a, nearest(new(big.Int).Sub(target, big.NewInt(a))))
				checkPair(t, a, nearest(new(big.Int).Add(target, big.NewInt(a))))
			}
		}
	}
}

func TestPromise2LaterTimeGivesLaterSum(t *testing.T) {
	times := manyTimes()
	for _, d := range times {
		for i := 1; i < len(times); i++ {
			before, after := times[i-1], times[i]
			if impl.Later(before, d) > impl.Later(after, d) {
				t.Errorf("Later(%d, %d) is later than Later(%d, %d)", before, d, after, d)
			}
			if impl.Later(d, before) > impl.Later(d, after) {
				t.Errorf("Later(%d, %d) is later than Later(%d, %d)", d, before, d, after)
			}
		}
	}
}

func TestPromise2TwoDurationsAtOnce(t *testing.T) {
	list := fromZeroOn(append(manyTimes(), variedTimes(30)...))
	for _, at := range list {
		for _, first := range list {
			for _, second := range list {
				oneByOne := impl.Later(impl.Later(at, first), second)
				atOnce := impl.Later(at, impl.Later(first, second))
				if oneByOne != atOnce {
					t.Errorf("%d + %d + %d: %d and %d", at, first, second, oneByOne, atOnce)
				}
			}
		}
	}
}

func TestPromise2DifferenceLeadsToSecondTime(t *testing.T) {
	list := fromZeroOn(append(manyTimes(), variedTimes(300)...))
	for _, a := range list {
		for _, b := range list {
			if got := impl.Later(a, impl.Between(a, b)); got != b {
				t.Errorf("from %d to %d: %d", a, b, got)
			}
		}
	}
}
