package tests

import (
	"math"
	"testing"

	"loop.example/g00673/impl"
)

const (
	never = math.MaxInt64
	least = math.MinInt64
)

type timesCase struct {
	t, u, want int64
}

func checkTimes(t *testing.T, name string, call func(int64, int64) int64, cases []timesCase) {
	t.Helper()
	for _, c := range cases {
		if got := call(c.t, c.u); got != c.want {
			t.Errorf("%s(%d, %d) is %d, not %d", name, c.t, c.u, got, c.want)
		}
	}
}

func TestNever(t *testing.T) {
	if impl.Never != 9223372036854775807 {
		t.Error(uint64(impl.Never))
	}
}

func TestLaterInsideTheRange(t *testing.T) {
	checkTimes(t, "Later", impl.Later, []timesCase{
		{0, 0, 0}, {3, 4, 7}, {3, -4, -1}, {-3, 4, 1}, {-3, -4, -7}, {5, 0, 5}, {0, 5, 5}, {7, -7, 0},
		{never, 0, never}, {0, never, never}, {least, 0, least}, {0, least, least},
		{never, -1, never - 1}, {-1, never, never - 1}, {least, 1, least + 1}, {1, least, least + 1},
		{never, least, -1}, {least, never, -1}, {never, -never, 0},
		{1000000000000, 1000000000000, 2000000000000},
	})
}

func TestLaterExactlyAtAnEnd(t *testing.T) {
	checkTimes(t, "Later", impl.Later, []timesCase{
		{never - 2, 2, never}, {2, never - 2, never}, {never - 1, 1, never}, {1, never - 1, never},
		{never / 2, never/2 + 1, never},
		{least + 2, -2, least}, {-2, least + 2, least}, {least + 1, -1, least}, {-1, least + 1, least},
		{least / 2, least / 2, least}, {-never, -1, least},
	})
}

func TestLaterPastAnEnd(t *testing.T) {
	checkTimes(t, "Later", impl.Later, []timesCase{
		{never, 1, never}, {1, never, never}, {never - 1, 2, never}, {never - 2, 3, never},
		{never, never, never}, {never, never - 1, never}, {never/2 + 1, never/2 + 1, never},
		{least, -1, least}, {-1, least, least}, {least + 1, -2, least}, {least + 2, -3, least},
		{least, least, least}, {least, least + 1, least}, {least / 2, least/2 - 1, least},
	})
}

func TestBetweenInsideTheRange(t *testing.T) {
	checkTimes(t, "Between", impl.Between, []timesCase{
		{3, 9, 6}, {9, 3, -6}, {-3, 9, 12}, {3, -9, -12}, {-3, -9, -6}, {0, 5, 5}, {5, 0, -5},
		{0, never, never}, {never, 0, -never}, {1, never, never - 1}, {never, -1, least},
		{-1, never - 1, never}, {1, least + 1, least}, {1, least + 2, least + 1}, {0, least, least},
	})
}

func TestBetweenPastAnEnd(t *testing.T) {
	checkTimes(t, "Between", impl.Between, []timesCase{
		{-1, never, never}, {-2, never - 1, never}, {-never, never, never}, {-never, 1, never},
		{1, least, least}, {2, least + 1, least}, {never, -2, least}, {never, -never, least},
	})
}

func TestBetweenWithTheLeastTime(t *testing.T) {
	checkTimes(t, "Between", impl.Between, []timesCase{
		{least, 0, never}, {least, -1, never}, {least, -2, never - 1}, {least, 1, never},
		{least, never, never}, {least, least + 1, 1}, {least, least, 0},
		{0, least, least}, {-1, least, least + 1}, {-2, least, least + 2}, {1, least, least},
		{never, least, least}, {least + 1, least, -1},
	})
}

func TestBetweenEqualTimes(t *testing.T) {
	for _, at := range manyTimes() {
		if got := impl.Between(at, at); got != 0 {
			t.Errorf("Between(%d, %d) is %d", at, at, got)
		}
	}
}

func TestSooner(t *testing.T) {
	checkTimes(t, "Sooner", impl.Sooner, []timesCase{
		{3, 4, 3}, {4, 3, 3}, {-3, 4, -3}, {-3, -4, -4}, {0, -1, -1}, {0, 1, 0},
		{3, 3, 3}, {0, 0, 0}, {least, least, least}, {never, never, never},
		{4, least, least}, {least, 4, least}, {least, least + 1, least}, {least + 1, least, least},
		{never, least, least}, {least, never, least}, {never, never - 1, never - 1}, {never, 5, 5}, {5, never, 5},
	})
}

func TestSoonerIsOneOfBothAndNotLater(t *testing.T) {
	for _, a := range manyTimes() {
		for _, b := range manyTimes() {
			got := impl.Sooner(a, b)
			if got != a && got != b || got > a || got > b {
				t.Errorf("Sooner(%d, %d) is %d", a, b, got)
			}
		}
	}
}

func TestIsDue(t *testing.T) {
	cases := []struct {
		now, at int64
		want    bool
	}{
		{5, 5, true}, {4, 5, false}, {5, 4, true}, {0, 0, true}, {0, -3, true}, {-3, 0, false},
		{-5, -5, true}, {-6, -5, false}, {least, least, true}, {least, least + 1, false}, {least + 1, least, true},
		{never - 1, never - 1, true}, {never - 2, never - 1, false}, {never, never - 1, true},
		{never, 0, true}, {never, least, true}, {least, never - 1, false},
		{never, never, false}, {never - 1, never, false}, {0, never, false}, {least, never, false},
	}
	for _, c := range cases {
		if got := impl.IsDue(c.now, c.at); got != c.want {
			t.Errorf("IsDue(%d, %d) is %v", c.now, c.at, got)
		}
	}
}

func TestIsDueFromItsTimeOn(t *testing.T) {
	for _, at := range manyTimes() {
		for _, now := range manyTimes() {
			want := now >= at && at != never
			if got := impl.IsDue(now, at); got != want {
				t.Errorf("IsDue(%d, %d) is %v", now, at, got)
			}
		}
	}
}
