package when_test

import (
	"math"
	"math/big"
	"slices"
	"testing"

	"depot/api"
	"depot/when"
)

// edges is numbers about each limit and each bound of int, rising.
func edges() []int {
	var l []int
	for _, n := range []int{-api.MaxTime, -api.Month, 0, api.Month, 1 << 31, 1 << 32, api.MaxTime - api.Month,
		api.MaxTime, api.MaxTime + api.Month, 2 * api.MaxTime, 1 << 62, -1 << 31, -1 << 32, -1 << 62} {
		l = append(l, n-2, n-1, n, n+1, n+2)
	}
	l = append(l, 5, 10, 14, 15, 16, 3000000, math.MaxInt, math.MaxInt-1, math.MinInt, math.MinInt+1)
	slices.Sort(l)
	return slices.Compact(l)
}

// brought is n, or the limit that it passes, as a number that can't wrap round.
func brought(n int) *big.Int {
	switch {
	case n < 0:
		return big.NewInt(0)
	case n > 1<<40:
		return big.NewInt(1 << 40)
	}
	return big.NewInt(int64(n))
}

// chance is a row of numbers of all sizes, either sign, that is the same for the same seed.
func chance(seed uint64) func() int {
	x := seed*0x9e3779b97f4a7c15 + 1
	return func() int {
		x ^= x << 13
		x ^= x >> 7
		x ^= x << 17
		return int(x) >> ((x >> 5) % 64)
	}
}

// pairs calls f with each two edges, and with many numbers of all sizes.
func pairs(f func(a, b int)) {
	for _, a := range edges() {
		for _, b := range edges() {
			f(a, b)
		}
	}
	next := chance(11)
	for range 200000 {
		f(next(), next())
	}
}

// is fails if got isn't want.
func is[T comparable](t *testing.T, call string, a, b int, got, want T) {
	t.Helper()
	if got != want {
		t.Errorf("%s(%d, %d) = %v, not %v", call, a, b, got, want)
	}
}

// The limits are the document's.
func TestLimits(t *testing.T) {
	if api.Month != 2592000 || api.MaxTime != 1099511627776 {
		t.Error(api.Month, api.MaxTime)
	}
}

// P11.1

func TestDeadline(t *testing.T) {
	const month, most = 2592000, 1 << 40
	for _, c := range []struct{ exp, now, want int }{
		{1, 0, 1}, {1, 1, 2}, {10, 100, 110}, {60, 1000000, 1000060}, {month - 1, 7, month + 6},
		{month, 0, month}, {month, 5, month + 5}, {month, 3 * month, 4 * month},
		{month + 1, 0, month + 1}, {month + 1, 5, month + 1}, {month + 1, 9 * month, month + 1},
		{most - 1, 5, most - 1}, {most, 5, most}, {most + 1, 5, most}, {2 * most, 5, most}, {math.MaxInt, 5, most},
	} {
		is(t, "Deadline", c.exp, c.now, when.Deadline(c.exp, c.now), c.want)
	}
}

// Each exp that the limits part, at each now that they part.
func TestDeadlineAtEachEdge(t *testing.T) {
	const month, most = 2592000, 1 << 40
	for _, n := range []struct{ now, in int }{
		{math.MinInt, 0}, {-1 << 40, 0}, {-month, 0}, {-1, 0}, {0, 0}, {1, 1},
		{most - month, most - month}, {most - 1, most - 1}, {most, most}, {most + 1, most}, {2 * most, most}, {math.MaxInt, most},
	} {
		for _, c := range []struct{ exp, want int }{
			{math.MinInt, -1}, {math.MinInt + 1, -1}, {-most, -1}, {-month, -1}, {-2, -1}, {-1, -1}, {0, 0},
			{1, n.in + 1}, {2, n.in + 2}, {month - 1, n.in + month - 1}, {month, n.in + month},
			{month + 1, month + 1}, {month + 2, month + 2},
			{most - 1, most - 1}, {most, most}, {most + 1, most}, {math.MaxInt - 1, most}, {math.MaxInt, most},
		} {
			is(t, "Deadline", c.exp, n.now, when.Deadline(c.exp, n.now), c.want)
		}
	}
}

// deadline is P11.1, reckoned with numbers that can't wrap round.
func deadline(exp, now int) int {
	if exp == 0 {
		return 0
	}
	if exp < 0 {
		return -1
	}
	if exp > 60*60*24*30 {
		return int(brought(exp).Int64())
	}
	return int(new(big.Int).Add(big.NewInt(int64(exp)), brought(now)).Int64())
}

func TestDeadlineOfManyNumbers(t *testing.T) {
	pairs(func(exp, now int) {
		is(t, "Deadline", exp, now, when.Deadline(exp, now), deadline(exp, now))
	})
}

// A value with an exp below 0 never lives, one with exp 0 always does, and one with an exp
// up to Month lives just so many ticks from a time that is one.
func TestHowLongAValueLives(t *testing.T) {
	for _, now := range []int{0, 1, 5, api.Month, api.MaxTime - api.Month, api.MaxTime - 1, api.MaxTime} {
		for _, exp := range []int{1, 2, 100, api.Month - 1, api.Month} {
			d := when.Deadline(exp, now)
			is(t, "Live", d, now, when.Live(d, now), true)
			is(t, "Live", d, now+exp-1, when.Live(d, now+exp-1), true)
			is(t, "Live", d, now+exp, when.Live(d, now+exp), false)
		}
		for _, later := range edges() {
			is(t, "Live of exp 0", now, later, when.Live(when.Deadline(0, now), later), true)
			is(t, "Live of exp -1", now, later, when.Live(when.Deadline(-1, now), later), false)
			is(t, "Live of the least exp", now, later, when.Live(when.Deadline(math.MinInt, now), later), false)
		}
	}
}

// P11.2

func TestLive(t *testing.T) {
	for _, c := range []struct {
		deadline, now int
		want          bool
	}{
		{100, 98, true}, {100, 99, true}, {100, 100, false}, {100, 101, false}, {1, 0, true}, {1, 1, false}, {1, 2, false},
		{1, -1, true}, {1, math.MinInt, true}, {1, math.MaxInt, false},
		{api.MaxTime, api.MaxTime - 1, true}, {api.MaxTime, api.MaxTime, false}, {api.MaxTime, api.MaxTime + 1, false},
		{api.MaxTime + 1, api.MaxTime, true}, {api.MaxTime + 1, api.MaxTime + 1, false},
		{api.MaxTime + 9, api.MaxTime + 8, true}, {api.MaxTime + 9, api.MaxTime + 10, false},
		{math.MaxInt, math.MinInt, true}, {math.MaxInt, 0, true}, {math.MaxInt, math.MaxInt - 1, true},
		{math.MaxInt, math.MaxInt, false}, {math.MaxInt - 1, math.MaxInt, false},
	} {
		is(t, "Live", c.deadline, c.now, when.Live(c.deadline, c.now), c.want)
	}
}

// Deadline 0 lives at each time, one below 0 at none, above now or not.
func TestLiveWithoutATime(t *testing.T) {
	for _, now := range edges() {
		is(t, "Live", 0, now, when.Live(0, now), true)
		for _, d := range edges() {
			if d < 0 {
				is(t, "Live", d, now, when.Live(d, now), false)
			}
		}
	}
	for _, d := range []int{-1, -2, -api.MaxTime, math.MinInt + 1} {
		is(t, "Live", d, d-1, when.Live(d, d-1), false)
		is(t, "Live", d, math.MinInt, when.Live(d, math.MinInt), false)
	}
}

func TestLiveOfManyNumbers(t *testing.T) {
	pairs(func(d, now int) {
		above := big.NewInt(int64(d)).Cmp(big.NewInt(int64(now))) > 0
		is(t, "Live", d, now, when.Live(d, now), d == 0 || d > 0 && above)
	})
}

func TestLater(t *testing.T) {
	const most = 1 << 40
	for _, c := range []struct{ now, ticks, want int }{
		{0, 0, 0}, {0, 1, 1}, {5, 3, 8}, {100, 1000, 1100}, {most / 2, most/2 - 1, most - 1}, {most / 2, most / 2, most},
		{most / 2, most/2 + 1, most}, {-5, 3, 3}, {5, -3, 5}, {-5, -3, 0},
	} {
		is(t, "Later", c.now, c.ticks, when.Later(c.now, c.ticks), c.want)
	}
}

// Each now that the limits part, with ticks that they part.
func TestLaterAtEachEdge(t *testing.T) {
	const most = 1 << 40
	for _, c := range []struct{ now, none, one, all int }{
		{math.MinInt, 0, 1, most}, {-most, 0, 1, most}, {-1, 0, 1, most}, {0, 0, 1, most}, {1, 1, 2, most},
		{most - 2, most - 2, most - 1, most}, {most - 1, most - 1, most, most}, {most, most, most, most},
		{most + 1, most, most, most}, {math.MaxInt - 1, most, most, most}, {math.MaxInt, most, most, most},
	} {
		for _, ticks := range []int{math.MinInt, math.MinInt + 1, -most - 1, -most, -1, 0} {
			is(t, "Later", c.now, ticks, when.Later(c.now, ticks), c.none)
		}
		is(t, "Later", c.now, 1, when.Later(c.now, 1), c.one)
		for _, ticks := range []int{most, most + 1, 2 * most, math.MaxInt - 1, math.MaxInt} {
			is(t, "Later", c.now, ticks, when.Later(c.now, ticks), c.all)
		}
	}
}

func TestLaterOfManyNumbers(t *testing.T) {
	pairs(func(now, ticks int) {
		sum := new(big.Int).Add(brought(now), brought(ticks))
		is(t, "Later", now, ticks, when.Later(now, ticks), min(int(sum.Int64()), 1<<40))
	})
}

// Ticks one by one come to the same as all of them at once.
func TestLaterByAndBy(t *testing.T) {
	for _, now := range []int{-7, 0, 5, api.MaxTime - 50, api.MaxTime} {
		at := when.Later(now, 0)
		for ticks := 1; ticks <= 100; ticks++ {
			at = when.Later(at, 1)
			is(t, "Later", now, ticks, when.Later(now, ticks), at)
		}
	}
}

// P11.3

// Each deadline and time, and each time behind it.
func TestWhatLivesNoMoreLivesAtNoLaterTime(t *testing.T) {
	times := edges()
	for _, d := range edges() {
		over := false
		for _, now := range times {
			live := when.Live(d, now)
			if over && live {
				t.Fatalf("Live(%d, %d), and at an earlier time it didn't", d, now)
			}
			over = !live
		}
	}
}

// A time that Later tells of a time is not ahead of it, and what lives no more doesn't live then.
func TestWhatLivesNoMoreDoesNotLiveLater(t *testing.T) {
	over := 0
	for _, d := range edges() {
		for _, begin := range edges() {
			now := when.Later(begin, 0)
			if when.Live(d, now) {
				continue
			}
			over++
			for _, ticks := range edges() {
				later := when.Later(now, ticks)
				if later < now || when.Live(d, later) {
					t.Fatalf("Live(%d, %d) isn't so, and Live(%d, %d), which is %d ticks later, is", d, now, d, later, ticks)
				}
			}
		}
	}
	if over < 1000 {
		t.Error("only", over, "were over")
	}
}

// A value that was given its deadline by Deadline is told up to some tick, and from it on never.
func TestValuesAreOverOnce(t *testing.T) {
	for _, begin := range []int{-3, 0, 5, api.MaxTime - 20, api.MaxTime} {
		for _, exp := range []int{math.MinInt, -1, 1, 2, 10, 19, 20, 21, api.Month + 1, api.MaxTime - 1, api.MaxTime, math.MaxInt} {
			d := when.Deadline(exp, begin)
			over := false
			for ticks := range 60 {
				now := when.Later(begin, ticks)
				live := when.Live(d, now)
				if over && live {
					t.Fatalf("exp %d, given at %d, lives at %d again", exp, begin, now)
				}
				over = !live
			}
		}
	}
}

// R4: the same numbers are told the same, whatever was asked between.
func TestSameNumbersTellTheSame(t *testing.T) {
	type told struct {
		deadline, later int
		live            bool
	}
	ask := func() []told {
		var l []told
		pairs(func(a, b int) { l = append(l, told{when.Deadline(a, b), when.Later(a, b), when.Live(a, b)}) })
		return l
	}
	if !slices.Equal(ask(), ask()) {
		t.Error("not the same")
	}
}

// Runs

func TestRuns(t *testing.T) {
	is(t, "Deadline", 0, 5, when.Deadline(0, 5), 0)
	is(t, "Deadline", -3, 5, when.Deadline(-3, 5), -1)
	is(t, "Deadline", 10, 5, when.Deadline(10, 5), 15)
	is(t, "Deadline", 3000000, 5, when.Deadline(3000000, 5), 3000000)
	is(t, "Live", 0, 9, when.Live(0, 9), true)
	is(t, "Live", 15, 14, when.Live(15, 14), true)
	is(t, "Live", 15, 15, when.Live(15, 15), false)
	is(t, "Live", -1, 0, when.Live(-1, 0), false)
	is(t, "Later", 5, -1, when.Later(5, -1), 5)
}
