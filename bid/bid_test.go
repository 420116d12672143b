package bid

import (
	"cmp"
	"math"
	"slices"
	"testing"

	"airline/api"
)

// list returns a list, to write it shortly.
func list[T any](l ...T) []T { return l }

// expected returns a demand: values and counts by turns.
func expected(l ...int) []api.Demand {
	var demands []api.Demand
	for pair := range slices.Chunk(l, 2) {
		demands = append(demands, api.Demand{Value: pair[0], Count: pair[1]})
	}
	return demands
}

// all returns a list of equal numbers.
func all(n, count int) []int { return slices.Repeat(list(n), count) }

// with returns a copy of a list, one of its elements changed.
func with[T any](l []T, i int, x T) []T {
	l = slices.Clone(l)
	l[i] = x
	return l
}

// numbers returns a source of numbers from 0 to n - 1 that look like chance.
func numbers(seed uint64) func(n int) int {
	return func(n int) int {
		seed = seed*6364136223846793005 + 1442695040888963407
		return int(seed >> 33 % uint64(n))
	}
}

// each calls f with all lists of a number of these elements.
func each[T any](elements []T, count int, f func(l []T)) {
	if count == 0 {
		f(nil)
		return
	}
	each(elements, count-1, func(l []T) {
		for _, x := range elements {
			f(append(slices.Clone(l), x))
		}
	})
}

// upTo calls f with all lists of up to a number of these elements.
func upTo[T any](elements []T, most int, f func(l []T)) {
	for count := range most + 1 {
		each(elements, count, f)
	}
}

// extremes are numbers that no number of seats of Curve can be. Some are right in 16 or 32 bits.
func extremes() []int {
	return []int{-1, -2, -1 << 16, -1<<32 + 1, math.MinInt, math.MinInt + 1, 1000, 1001, 1 << 16, 1<<16 + 1, 1 << 31, 1 << 32, 1<<32 + 1, math.MaxInt - 1, math.MaxInt}
}

// wrongValues are values that no passenger pays.
func wrongValues() []int {
	return []int{-1, -2, -api.MaxMoney, math.MinInt, math.MinInt + 1, api.MaxMoney + 1, api.MaxMoney + 2, math.MaxInt}
}

// The definitions of the chapter.

func curve(l []api.Demand, seats int) ([]int, api.Errno) {
	if seats < 0 || seats > 999 {
		return nil, api.ErrArg
	}
	var values []int
	for _, d := range l {
		switch {
		case d.Value < 0 || d.Value > 1<<40:
			return nil, api.ErrOver
		case d.Count < 0:
			return nil, api.ErrArg
		}
		// More than all seats are not needed.
		values = append(values, all(d.Value, min(d.Count, 1000))...)
	}
	slices.SortFunc(values, func(a, b int) int { return cmp.Compare(b, a) })
	return append(values, make([]int, seats)...)[:seats], api.OK
}

func right(curve []int) bool {
	for i, n := range curve {
		if n < 0 || n > 1<<40 || i > 0 && n > curve[i-1] {
			return false
		}
	}
	return len(curve) <= 999
}

func price(curve []int, left int) int {
	for i, n := range curve {
		if i == left-1 {
			return n
		}
	}
	if left < 1 {
		return -1
	}
	return 0
}

func worth(curve []int, left int) int {
	sum := 0
	for i, n := range curve {
		if i < left {
			sum += n
		}
	}
	return sum
}

// accepted reports whether a number of seats is accepted, which is at most 999, and seats the greatest such number.
func accepted(curves [][]int, left []int, value, n int) bool {
	for k := range n {
		sum := 0
		for i := range curves {
			if left[i]-k < 1 {
				return false
			}
			sum += price(curves[i], left[i]-k)
		}
		if sum > value {
			return false
		}
	}
	return true
}

func seats(curves [][]int, left []int, value, most int) int {
	if len(curves) == 0 || len(curves) != len(left) || most < 1 {
		return 0
	}
	for n := min(most, 999); n > 0; n-- {
		if accepted(curves, left, value, n) {
			return n
		}
	}
	return 0
}

// P14.1

// curveIs fails if Curve does not return these bid prices.
func curveIs(t *testing.T, l []api.Demand, seats int, want ...int) {
	t.Helper()
	if c, e := Curve(l, seats); e != api.OK || !slices.Equal(c, want) {
		t.Errorf("Curve(%v, %d) = %v, %d, not %v", l, seats, c, e, want)
	}
}

// curveFails fails if Curve does not return an error.
func curveFails(t *testing.T, l []api.Demand, seats int, want api.Errno) {
	t.Helper()
	if c, e := Curve(l, seats); e != want || len(c) != 0 {
		t.Errorf("Curve(%v, %d) = %v, %d, not the error %d", l, seats, c, e, want)
	}
}

func TestCurveOfExample(t *testing.T) {
	curveIs(t, expected(100, 1, 300, 2), 4, 300, 300, 100, 0)
}

func TestCurveOfNoDemand(t *testing.T) {
	for _, l := range [][]api.Demand{nil, {}, expected(100, 0), expected(100, 0, 300, 0), expected(api.MaxMoney, 0), expected(0, 0)} {
		for _, n := range []int{0, 1, 3, 998, api.MaxSeats} {
			curveIs(t, l, n, all(0, n)...)
		}
	}
}

func TestCurveOfOneDemand(t *testing.T) {
	for _, value := range []int{0, 1, 100, api.MaxMoney - 1, api.MaxMoney} {
		curveIs(t, expected(value, 1), 0)
		curveIs(t, expected(value, 1), 1, value)
		curveIs(t, expected(value, 1), 2, value, 0)
		curveIs(t, expected(value, 2), 3, value, value, 0)
		// Exactly what fits, and one more.
		curveIs(t, expected(value, 3), 3, value, value, value)
		curveIs(t, expected(value, 4), 3, value, value, value)
		curveIs(t, expected(value, 998), api.MaxSeats, append(all(value, 998), 0)...)
		curveIs(t, expected(value, 999), api.MaxSeats, all(value, 999)...)
		curveIs(t, expected(value, 1000), api.MaxSeats, all(value, 999)...)
		for _, n := range []int{0, 1, 3, 998, api.MaxSeats} {
			for _, count := range []int{1000, 1 << 16, 1 << 31, 1 << 32, 1<<32 + 1, math.MaxInt - 1, math.MaxInt} {
				curveIs(t, expected(value, count), n, all(value, n)...)
			}
		}
	}
}

func TestCurveOfSeveralDemands(t *testing.T) {
	// In any order.
	for _, l := range [][]api.Demand{expected(100, 1, 200, 2, 300, 1), expected(300, 1, 200, 2, 100, 1), expected(200, 2, 100, 1, 300, 1), expected(300, 1, 100, 1, 200, 2)} {
		curveIs(t, l, 0)
		curveIs(t, l, 1, 300)
		curveIs(t, l, 2, 300, 200)
		curveIs(t, l, 3, 300, 200, 200)
		curveIs(t, l, 4, 300, 200, 200, 100)
		curveIs(t, l, 6, 300, 200, 200, 100, 0, 0)
	}
	// Several of the same Value.
	curveIs(t, expected(100, 1, 100, 2), 4, 100, 100, 100, 0)
	curveIs(t, expected(100, 1, 100, 2), 2, 100, 100)
	curveIs(t, expected(100, 1, 300, 1, 100, 1), 4, 300, 100, 100, 0)
	curveIs(t, expected(300, 1, 100, 1, 300, 1), 4, 300, 300, 100, 0)
	curveIs(t, expected(300, 1, 100, 1, 300, 1, 300, 1), 3, 300, 300, 300)
	// The least and the greatest Value.
	curveIs(t, expected(0, 2, api.MaxMoney, 1, 1, 1), 5, api.MaxMoney, 1, 0, 0, 0)
	curveIs(t, expected(api.MaxMoney-1, 1, api.MaxMoney, 1, 1<<32, 1, 1, 1), 4, api.MaxMoney, api.MaxMoney-1, 1<<32, 1)
	// Nobody at one Value.
	curveIs(t, expected(500, 0, 100, 1, 50, 0, 20, 1, 0, 0), 3, 100, 20, 0)
	// Exactly what fits, one less, and one more.
	curveIs(t, expected(300, 2, 100, 1), 3, 300, 300, 100)
	curveIs(t, expected(300, 1, 100, 1), 3, 300, 100, 0)
	curveIs(t, expected(300, 2, 100, 2), 3, 300, 300, 100)
	curveIs(t, expected(300, 3, 100, 1), 3, 300, 300, 300)
	curveIs(t, expected(1, 998, 2, 1), api.MaxSeats, append(list(2), all(1, 998)...)...)
	curveIs(t, expected(1, 998, 2, 2), api.MaxSeats, append(list(2, 2), all(1, 997)...)...)
	curveIs(t, expected(1, 997, 2, 1), api.MaxSeats, append(append(list(2), all(1, 997)...), 0)...)
	// More than an int can count.
	curveIs(t, expected(100, math.MaxInt, 200, math.MaxInt, 300, 2), 3, 300, 300, 200)
	curveIs(t, expected(100, math.MaxInt, 200, 1), 3, 200, 100, 100)
	curveIs(t, expected(200, math.MaxInt, 100, math.MaxInt, 100, 2), 2, 200, 200)
	curveIs(t, expected(200, 1, 100, math.MaxInt, 100, 1, 100, math.MaxInt), 4, 200, 100, 100, 100)
	curveIs(t, slices.Repeat(expected(100, math.MaxInt), 5), 2, 100, 100)
	curveIs(t, append(slices.Repeat(expected(100, 1), 5000), expected(300, 1)...), 3, 300, 100, 100)
}

func TestErrorsOfCurve(t *testing.T) {
	for _, n := range []int{0, 1, 2, 5, api.MaxSeats} {
		for _, value := range wrongValues() {
			for _, count := range []int{-1, 0, 1, 9, -9, math.MinInt, math.MaxInt} {
				curveFails(t, expected(value, count), n, api.ErrOver)
			}
		}
		for _, value := range []int{0, 1, 100, api.MaxMoney} {
			for _, count := range []int{-1, -2, -1 << 32, -1<<32 + 1, math.MinInt, math.MinInt + 1} {
				curveFails(t, expected(value, count), n, api.ErrArg)
			}
		}
		// The first element that is wrong counts.
		curveFails(t, expected(100, -1, -1, 1), n, api.ErrArg)
		curveFails(t, expected(-1, 1, 100, -1), n, api.ErrOver)
		curveFails(t, expected(-1, -1, 100, -1), n, api.ErrOver)
		curveFails(t, expected(100, -1, -1, -1), n, api.ErrArg)
		curveFails(t, expected(100, 1, 100, -1, api.MaxMoney+1, 0), n, api.ErrArg)
		curveFails(t, expected(100, 1, api.MaxMoney+1, 0, 100, -1), n, api.ErrOver)
		// Its Value has no part in it.
		curveFails(t, expected(0, -1, api.MaxMoney+1, 1, 300, -1), n, api.ErrArg)
		curveFails(t, expected(300, 1, -1, 1, api.MaxMoney, -1), n, api.ErrOver)
		// Behind elements that fill the curve, however dear they are.
		for _, count := range []int{n, n + 1, math.MaxInt} {
			curveFails(t, expected(300, count, 100, -1), n, api.ErrArg)
			curveFails(t, expected(300, count, -1, 1), n, api.ErrOver)
			curveFails(t, expected(300, count, api.MaxMoney+1, 1), n, api.ErrOver)
			curveFails(t, expected(300, count, 100, 1, 100, -1, -1, 1), n, api.ErrArg)
			curveFails(t, expected(100, count, 0, 1, -1, -1, 300, -1), n, api.ErrOver)
			curveFails(t, append(slices.Repeat(expected(300, count), 100), expected(100, -1)...), n, api.ErrArg)
		}
	}
}

func TestWrongSeatsOfCurve(t *testing.T) {
	for _, n := range extremes() {
		for _, l := range [][]api.Demand{nil, {}, expected(100, 1), expected(100, n), expected(100, -1), expected(-1, 1), expected(-1, -1), expected(api.MaxMoney+1, 0), expected(100, 1, 300, 2, -1, -1)} {
			curveFails(t, l, n, api.ErrArg)
		}
	}
}

// curveIsAsDefined fails if Curve does not return what is described, or a curve that is not right.
func curveIsAsDefined(t *testing.T, l []api.Demand, seats int) api.Errno {
	t.Helper()
	c, e := Curve(l, seats)
	if want, x := curve(l, seats); !slices.Equal(c, want) || e != x {
		t.Fatalf("Curve(%v, %d) = %v, %d, not %v, %d", l, seats, c, e, want, x)
	}
	if !right(c) || !Right(c) {
		t.Fatalf("Curve(%v, %d) = %v is not right", l, seats, c)
	}
	return e
}

func TestCurveIsAsDefined(t *testing.T) {
	var family []api.Demand
	for _, value := range []int{-1, 0, 1, 2, api.MaxMoney, api.MaxMoney + 1} {
		for _, count := range []int{-1, 0, 1, 2, math.MaxInt} {
			family = append(family, api.Demand{Value: value, Count: count})
		}
	}
	count := map[api.Errno]int{}
	upTo(family, 3, func(l []api.Demand) {
		for n := -1; n <= 5; n++ {
			count[curveIsAsDefined(t, l, n)]++
		}
		curveIsAsDefined(t, l, api.MaxSeats+1)
	})
	for _, e := range []api.Errno{api.OK, api.ErrArg, api.ErrOver} {
		if count[e] < 10000 {
			t.Errorf("the error %d occurs %d times", e, count[e])
		}
	}
}

// demand returns a right demand of any size.
func demand(next func(n int) int) []api.Demand {
	l := make([]api.Demand, next(20))
	for i := range l {
		l[i] = api.Demand{Value: next(1 + next(100)), Count: next(1 + next(100))}
		if next(10) == 0 {
			l[i].Value = api.MaxMoney - next(3)
		}
		if next(20) == 0 {
			l[i].Count = math.MaxInt - next(3)
		}
	}
	return l
}

func TestCurveOfGreaterDemandIsAsDefined(t *testing.T) {
	next := numbers(1)
	for range 5000 {
		l := demand(next)
		for _, n := range []int{next(10), next(100), next(api.MaxSeats + 1), api.MaxSeats} {
			curveIsAsDefined(t, l, n)
		}
		if len(l) > 0 {
			i, d := next(len(l)), api.Demand{Value: next(5) - 2, Count: next(5) - 2}
			curveIsAsDefined(t, with(l, i, d), next(100))
			curveIsAsDefined(t, with(l, i, api.Demand{Value: api.MaxMoney + next(5) - 2, Count: d.Count}), next(100))
		}
	}
}

// rightIs fails if Right does not return this.
func rightIs(t *testing.T, c []int, want bool) {
	t.Helper()
	if ok := Right(c); ok != want {
		t.Errorf("Right(%v) = %t", c, ok)
	}
}

func TestRight(t *testing.T) {
	rightIs(t, list(3, 3, 0), true)
	rightIs(t, list(1, 2), false)
	rightIs(t, nil, true)
	rightIs(t, []int{}, true)
	// Equal elements.
	for _, n := range []int{0, 1, api.MaxMoney} {
		for _, count := range []int{1, 2, 5, api.MaxSeats - 1, api.MaxSeats} {
			rightIs(t, all(n, count), true)
		}
		for _, count := range []int{api.MaxSeats + 1, api.MaxSeats + 2, 1<<16 + 1} {
			rightIs(t, all(n, count), false)
		}
	}
	// The least and the greatest bid prices.
	rightIs(t, list(api.MaxMoney, 0), true)
	rightIs(t, list(api.MaxMoney, api.MaxMoney-1, 1<<32, 1, 1, 0, 0), true)
	rightIs(t, list(0, api.MaxMoney), false)
	rightIs(t, list(api.MaxMoney-1, api.MaxMoney), false)
	rightIs(t, list(1<<32, 1<<32+1), false)
	for _, n := range wrongValues() {
		rightIs(t, list(n), false)
		rightIs(t, list(n, 0), false)
		rightIs(t, list(n, n), false)
		rightIs(t, list(api.MaxMoney, n), false)
		rightIs(t, list(5, 3, n), false)
		rightIs(t, list(5, n, 0), false)
		rightIs(t, list(n, n-1, n-2), false)
	}
	// It rises at the beginning, in the middle and at the end.
	rightIs(t, list(4, 5, 3, 2, 1), false)
	rightIs(t, list(5, 4, 2, 3, 1), false)
	rightIs(t, list(5, 4, 3, 1, 2), false)
	rightIs(t, list(5, 4, 3, 2, 1), true)
	rightIs(t, list(5, 1, 4, 3, 2), false)
	rightIs(t, list(3, 3, 4, 3, 3), false)
	rightIs(t, list(0, 0, 1), false)
}

func TestRightOfLongCurves(t *testing.T) {
	var falling []int
	for i := range api.MaxSeats {
		falling = append(falling, 2*(api.MaxSeats-i))
	}
	rightIs(t, falling, true)
	rightIs(t, append(slices.Clone(falling), 0), false)
	rightIs(t, falling[:api.MaxSeats-1], true)
	for i, n := range falling {
		rightIs(t, with(falling, i, -1), false)
		rightIs(t, with(falling, i, api.MaxMoney+1), false)
		// As much as the one before or behind it, and 1 beyond them.
		rightIs(t, with(falling, i, n+2), true)
		rightIs(t, with(falling, i, n+3), i == 0)
		rightIs(t, with(falling, i, n-2), true)
		rightIs(t, with(falling, i, n-3), i == api.MaxSeats-1 && n >= 3)
	}
}

func TestRightIsAsDefined(t *testing.T) {
	count := map[bool]int{}
	upTo(list(math.MinInt, -1, 0, 1, 2, api.MaxMoney, api.MaxMoney+1, math.MaxInt), 5, func(c []int) {
		rightIs(t, c, right(c))
		count[right(c)]++
	})
	if count[true] < 100 || count[false] < 10000 {
		t.Errorf("%d curves are right, %d are not", count[true], count[false])
	}
}

// priceIs and worthIs fail if Price and Worth do not return this.
func priceIs(t *testing.T, c []int, left, want int) {
	t.Helper()
	if n := Price(c, left); n != want {
		t.Errorf("Price(%v, %d) = %d, not %d", c, left, n, want)
	}
}

func worthIs(t *testing.T, c []int, left, want int) {
	t.Helper()
	if n := Worth(c, left); n != want {
		t.Errorf("Worth(%v, %d) = %d, not %d", c, left, n, want)
	}
}

// curves are some that are right, wrongCurves some that are not.
func curves() [][]int {
	return [][]int{
		nil, {}, {0}, {5}, {api.MaxMoney}, {0, 0}, {300, 100}, {100, 100}, {api.MaxMoney, 0}, {300, 100, 50}, {200, 100, 0, 0},
		all(api.MaxMoney, api.MaxSeats), all(0, api.MaxSeats), append(all(7, 500), all(3, 499)...),
	}
}

func wrongCurves() [][]int {
	return [][]int{
		{-1}, {1, 2}, {0, 300, 100}, {api.MaxMoney + 1}, {math.MaxInt, math.MinInt}, {math.MinInt, -5, math.MaxInt}, {-7, -7},
		all(1, api.MaxSeats+1), all(-3, 5000), append(all(0, api.MaxSeats), 9), all(math.MaxInt, 1500),
	}
}

func TestPrice(t *testing.T) {
	priceIs(t, list(300, 100), 1, 300)
	priceIs(t, list(300, 100), 2, 100)
	priceIs(t, list(300, 100), 3, 0)
	priceIs(t, list(300, 100), 0, -1)
	for _, c := range append(curves(), wrongCurves()...) {
		for _, left := range []int{0, -1, -2, -len(c), -1 << 16, -1 << 32, -1<<32 + 1, math.MinInt, math.MinInt + 1} {
			priceIs(t, c, left, -1)
		}
		for i, n := range c {
			priceIs(t, c, i+1, n)
		}
		for _, left := range []int{len(c) + 1, len(c) + 2, 1 << 16, 1<<16 + 1, 1 << 31, 1 << 32, 1<<32 + 1, math.MaxInt - 1, math.MaxInt} {
			priceIs(t, c, left, 0)
		}
	}
}

func TestWorth(t *testing.T) {
	worthIs(t, list(300, 100), 5, 400)
	worthIs(t, list(300, 100), 3, 400)
	worthIs(t, list(300, 100), 2, 400)
	worthIs(t, list(300, 100), 1, 300)
	worthIs(t, list(300, 100, 50), 2, 400)
	for _, c := range curves() {
		whole := worth(c, len(c))
		for _, left := range []int{0, -1, -2, -len(c), -1 << 16, -1 << 32, -1<<32 + 1, math.MinInt, math.MinInt + 1} {
			worthIs(t, c, left, 0)
		}
		for left := range len(c) {
			worthIs(t, c, left, worth(c, left))
		}
		for _, left := range []int{len(c), len(c) + 1, len(c) + 2, 1 << 16, 1<<16 + 1, 1 << 31, 1 << 32, 1<<32 + 1, math.MaxInt - 1, math.MaxInt} {
			worthIs(t, c, left, whole)
		}
	}
	// It may be more than the greatest amount.
	worthIs(t, list(api.MaxMoney, 1), 2, api.MaxMoney+1)
	worthIs(t, all(api.MaxMoney, api.MaxSeats), api.MaxSeats, api.MaxSeats*api.MaxMoney)
	worthIs(t, all(api.MaxMoney, api.MaxSeats), 998, 998*api.MaxMoney)
}

func TestPriceAndWorthAreAsDefined(t *testing.T) {
	upTo(list(-1, 0, 1, 2, api.MaxMoney, api.MaxMoney+1), 4, func(c []int) {
		for _, left := range append(extremes(), 0, 1, 2, 3, 4, 5, 6) {
			priceIs(t, c, left, price(c, left))
			if right(c) {
				worthIs(t, c, left, worth(c, left))
			}
		}
	})
}

// P14.2

// seatsAre fails if Seats does not return this.
func seatsAre(t *testing.T, curves [][]int, left []int, value, most, want int) {
	t.Helper()
	if n := Seats(curves, left, value, most); n != want {
		t.Errorf("Seats(%v, %v, %d, %d) = %d, not %d", curves, left, value, most, n, want)
	}
}

// pair returns the curves of the chapter.
func pair() [][]int { return [][]int{{300, 100, 50}, {200, 100}} }

func TestSeatsOfExample(t *testing.T) {
	seatsAre(t, pair(), list(3, 2), 250, 5, 1)
}

func TestSeatsOfNoLegs(t *testing.T) {
	for _, value := range []int{-1, 0, 5, math.MaxInt} {
		for _, most := range []int{-1, 0, 1, 5, math.MaxInt} {
			seatsAre(t, nil, nil, value, most, 0)
			seatsAre(t, [][]int{}, []int{}, value, most, 0)
		}
	}
}

func TestSeatsOfDifferentLengths(t *testing.T) {
	for _, value := range []int{-1, 0, 1000, math.MaxInt} {
		for _, most := range []int{-1, 0, 1, 5, math.MaxInt} {
			seatsAre(t, pair(), list(3), value, most, 0)
			seatsAre(t, pair(), list(3, 2, 9), value, most, 0)
			seatsAre(t, pair(), nil, value, most, 0)
			seatsAre(t, pair(), list(0, 0, 0), value, most, 0)
			seatsAre(t, pair()[:1], list(3, 2), value, most, 0)
			seatsAre(t, [][]int{nil}, list(3, 2), value, most, 0)
			seatsAre(t, [][]int{nil, nil, nil}, list(3, 2), value, most, 0)
			seatsAre(t, nil, list(3), value, most, 0)
			seatsAre(t, [][]int{}, list(3, 2), value, most, 0)
			seatsAre(t, slices.Repeat([][]int{nil}, 36), all(5, 35), value, most, 0)
			seatsAre(t, slices.Repeat([][]int{nil}, 35), all(5, 36), value, most, 0)
		}
	}
}

func TestSeatsOfOneLeg(t *testing.T) {
	c := [][]int{{300, 100, 50}}
	// Exactly the bid price, and one less.
	seatsAre(t, c, list(3), 49, 5, 0)
	seatsAre(t, c, list(3), 50, 5, 1)
	seatsAre(t, c, list(3), 99, 5, 1)
	seatsAre(t, c, list(3), 100, 5, 2)
	seatsAre(t, c, list(3), 299, 5, 2)
	seatsAre(t, c, list(3), 300, 5, 3)
	seatsAre(t, c, list(3), math.MaxInt, 5, 3)
	seatsAre(t, c, list(2), 99, 5, 0)
	seatsAre(t, c, list(2), 100, 5, 1)
	seatsAre(t, c, list(1), 299, 5, 0)
	seatsAre(t, c, list(1), 300, 5, 1)
	seatsAre(t, c, list(0), 300, 5, 0)
	// More seats than the curve has bid prices for.
	seatsAre(t, c, list(4), 0, 5, 1)
	seatsAre(t, c, list(4), 50, 5, 2)
	seatsAre(t, c, list(5), 49, 5, 2)
	seatsAre(t, c, list(6), 100, 9, 5)
	seatsAre(t, c, list(9), 0, 9, 6)
	seatsAre(t, c, list(9), 300, 8, 8)
	seatsAre(t, c, list(9), 300, 10, 9)
	// Equal bid prices, and the bid price 0.
	seatsAre(t, [][]int{{100, 100, 100}}, list(3), 99, 5, 0)
	seatsAre(t, [][]int{{100, 100, 100}}, list(3), 100, 5, 3)
	seatsAre(t, [][]int{{100, 0, 0}}, list(3), 0, 5, 2)
	seatsAre(t, [][]int{{100, 0, 0}}, list(3), 99, 5, 2)
	seatsAre(t, [][]int{{0, 0}}, list(2), 0, 5, 2)
	seatsAre(t, [][]int{{0, 0}}, list(2), -1, 5, 0)
	// Empty curves.
	seatsAre(t, [][]int{nil}, list(5), 0, 9, 5)
	seatsAre(t, [][]int{{}}, list(5), 0, 3, 3)
	seatsAre(t, [][]int{{}}, list(5), -1, 3, 0)
	seatsAre(t, [][]int{{}}, list(0), 0, 3, 0)
}

func TestSeatsOfSeveralLegs(t *testing.T) {
	// Exactly the sum of the bid prices, and one less.
	seatsAre(t, pair(), list(3, 2), 149, 5, 0)
	seatsAre(t, pair(), list(3, 2), 150, 5, 1)
	seatsAre(t, pair(), list(3, 2), 299, 5, 1)
	seatsAre(t, pair(), list(3, 2), 300, 5, 2)
	seatsAre(t, pair(), list(3, 2), math.MaxInt, 5, 2)
	seatsAre(t, pair(), list(3, 3), 49, 5, 0)
	seatsAre(t, pair(), list(3, 3), 50, 5, 1)
	seatsAre(t, pair(), list(3, 3), 200, 5, 2)
	seatsAre(t, pair(), list(3, 3), 499, 5, 2)
	seatsAre(t, pair(), list(3, 3), 500, 5, 3)
	// The legs may come in any order.
	seatsAre(t, [][]int{{200, 100}, {300, 100, 50}}, list(2, 3), 250, 5, 1)
	seatsAre(t, [][]int{{200, 100}, {300, 100, 50}}, list(3, 2), 99, 5, 0)
	seatsAre(t, [][]int{{200, 100}, {300, 100, 50}}, list(3, 2), 100, 5, 1)
	seatsAre(t, [][]int{{200, 100}, {300, 100, 50}}, list(3, 2), 399, 5, 1)
	seatsAre(t, [][]int{{200, 100}, {300, 100, 50}}, list(3, 2), 400, 5, 2)
	// Fewer seats on one leg than on the others.
	seatsAre(t, pair(), list(9, 1), 1000, 5, 1)
	seatsAre(t, pair(), list(1, 9), 1000, 5, 1)
	seatsAre(t, pair(), list(9, 0), 1000, 5, 0)
	seatsAre(t, pair(), list(0, 9), 1000, 5, 0)
	three := [][]int{{5, 4, 3}, nil, {2, 2}}
	seatsAre(t, three, list(9, 9, 9), 0, 9, 6)
	seatsAre(t, three, list(9, 2, 9), 0, 9, 2)
	seatsAre(t, three, list(9, 8, 9), 6, 9, 8)
	seatsAre(t, three, list(9, 9, 9), 6, 9, 8)
	seatsAre(t, three, list(9, 9, 9), 7, 9, 9)
	seatsAre(t, three, list(5, 9, 9), 4, 9, 4)
	seatsAre(t, three, list(5, 9, 3), 4, 9, 2)
	// A curve has no meaning for another leg.
	seatsAre(t, [][]int{{1}, {10}}, list(2, 1), 10, 9, 1)
	seatsAre(t, [][]int{{1}, {10}}, list(1, 2), 1, 9, 1)
	seatsAre(t, [][]int{{1}, {10}}, list(1, 2), 0, 9, 0)
	seatsAre(t, [][]int{{1}, {10}}, list(2, 1), 9, 9, 0)
}

func TestSeatsOfMost(t *testing.T) {
	for _, c := range []struct {
		curves [][]int
		left   []int
		value  int
		n      int
	}{
		{pair(), list(3, 2), 250, 1}, {pair(), list(3, 2), 300, 2}, {[][]int{{300, 100, 50}}, list(3), 300, 3}, {[][]int{{300, 100, 50}}, list(9), 0, 6}, {[][]int{nil, nil}, list(7, 5), 0, 5}, {slices.Repeat([][]int{{2, 1}}, 36), all(9, 36), 36, 8},
	} {
		for _, most := range []int{c.n, c.n + 1, 999, 1000, 1 << 16, 1 << 32, 1<<32 + 1, math.MaxInt - 1, math.MaxInt} {
			seatsAre(t, c.curves, c.left, c.value, most, c.n)
		}
		for most := range c.n {
			seatsAre(t, c.curves, c.left, c.value, most, most)
		}
		for _, most := range []int{0, -1, -2, -1 << 16, -1 << 32, -1<<32 + 1, math.MinInt, math.MinInt + 1} {
			seatsAre(t, c.curves, c.left, c.value, most, 0)
		}
	}
}

func TestSeatsOfLeft(t *testing.T) {
	for _, n := range []int{0, -1, -2, -999, -1 << 16, -1 << 32, -1<<32 + 1, math.MinInt, math.MinInt + 1} {
		seatsAre(t, [][]int{{300, 100, 50}}, list(n), 1000, 5, 0)
		seatsAre(t, [][]int{nil}, list(n), math.MaxInt, math.MaxInt, 0)
		seatsAre(t, pair(), list(n, 9), 1000, 5, 0)
		seatsAre(t, pair(), list(9, n), 1000, math.MaxInt, 0)
		seatsAre(t, pair(), list(n, n), math.MaxInt, 5, 0)
	}
	// Exactly most, and one less and more.
	for _, most := range []int{1, 2, 5, 998, 999} {
		for _, c := range [][]int{nil, {0}, {300, 100, 50}} {
			seatsAre(t, [][]int{c}, list(most), 300, most, most)
			seatsAre(t, [][]int{c}, list(most-1), 300, most, most-1)
			seatsAre(t, [][]int{c}, list(most+1), 300, most, most)
			seatsAre(t, [][]int{c, c}, list(most, most), 600, most, most)
			seatsAre(t, [][]int{c, c}, list(most+1, most-1), 600, most, most-1)
		}
	}
}

func TestSeatsOfMoreThanThereMayBe(t *testing.T) {
	for _, n := range []int{999, 1000, 1001, 2000, 1 << 16, 1 << 32, 1<<32 + 1, math.MaxInt - 1, math.MaxInt} {
		for _, most := range []int{999, 1000, 1001, 2000, 1 << 16, 1 << 32, 1<<32 + 1, math.MaxInt} {
			seatsAre(t, [][]int{nil}, list(n), 0, most, api.MaxSeats)
			seatsAre(t, [][]int{all(7, api.MaxSeats)}, list(n), 7, most, api.MaxSeats)
			seatsAre(t, [][]int{nil, {300}}, list(n, 1998), 0, most, api.MaxSeats)
		}
		seatsAre(t, [][]int{nil}, list(n), 0, 998, 998)
		seatsAre(t, [][]int{nil, nil}, list(n, 998), 0, math.MaxInt, 998)
	}
	// The last of the seats that may be accepted.
	seatsAre(t, [][]int{{300, 100}}, list(999), 100, math.MaxInt, 998)
	seatsAre(t, [][]int{{300, 100}}, list(999), 300, math.MaxInt, 999)
	seatsAre(t, [][]int{{300, 100}}, list(1000), 100, math.MaxInt, 999)
	seatsAre(t, [][]int{{300, 100}}, list(1000), 99, math.MaxInt, 998)
	seatsAre(t, [][]int{{300, 100}}, list(1001), 0, math.MaxInt, 999)
	seatsAre(t, [][]int{all(7, api.MaxSeats)}, list(1998), 0, math.MaxInt, 999)
	seatsAre(t, [][]int{all(7, api.MaxSeats)}, list(1997), 0, math.MaxInt, 998)
}

func TestSeatsOfValue(t *testing.T) {
	for _, value := range []int{-1, -2, -1 << 32, -1<<32 + 1, math.MinInt, math.MinInt + 1} {
		for _, c := range [][]int{nil, {0, 0, 0}, {300, 100, 50}} {
			seatsAre(t, [][]int{c}, list(3), value, 5, 0)
			seatsAre(t, [][]int{c, nil}, list(9, 9), value, 5, 0)
		}
	}
	// The sum may be more than the greatest amount.
	dear := slices.Repeat([][]int{all(api.MaxMoney, 3)}, api.MaxSegs*api.MaxLegs)
	for legs := 1; legs <= len(dear); legs++ {
		c, left := dear[:legs], all(3, legs)
		seatsAre(t, c, left, legs*api.MaxMoney, 5, 3)
		seatsAre(t, c, left, legs*api.MaxMoney-1, 5, 0)
		seatsAre(t, c, left, math.MaxInt, 5, 3)
		seatsAre(t, c, left, 0, 5, 0)
		// One leg is full.
		seatsAre(t, c, with(left, legs-1, 0), math.MaxInt, 5, 0)
		seatsAre(t, c, with(left, legs-1, 1), math.MaxInt, 5, 1)
	}
}

// seatsAreAsDefined fails if Seats does not return what is described.
func seatsAreAsDefined(t *testing.T, curves [][]int, left []int, value, most int) int {
	t.Helper()
	n := Seats(curves, left, value, most)
	if want := seats(curves, left, value, most); n != want {
		t.Fatalf("Seats(%v, %v, %d, %d) = %d, not %d", curves, left, value, most, n, want)
	}
	return n
}

func TestSeatsAreAsDefined(t *testing.T) {
	var family [][]int
	upTo(list(0, 1, 3), 3, func(c []int) {
		if right(c) {
			family = append(family, c)
		}
	})
	count := map[int]int{}
	for legs := range 3 {
		each(family, legs, func(curves [][]int) {
			upTo(list(-1, 0, 1, 2, 3, 5), 2, func(left []int) {
				for value := -1; value <= 7; value++ {
					for _, most := range []int{0, 1, 2, 3, math.MaxInt} {
						count[seatsAreAsDefined(t, curves, left, value, most)]++
					}
				}
			})
		})
	}
	for n := range 6 {
		if count[n] < 300 {
			t.Errorf("%d seats are accepted %d times", n, count[n])
		}
	}
}

// journey returns right curves and seats that are left on some legs, and a value that is about the sum of the bid prices of a seat.
func journey(next func(n int) int) (curves [][]int, left []int, value int) {
	k := next(15)
	for range 1 + next(api.MaxSegs*api.MaxLegs) {
		c, _ := Curve(demand(next), next(50))
		n := len(c) + next(10) - 5
		curves, left = append(curves, c), append(left, n)
		value += max(price(c, n-k), 0)
	}
	return curves, left, value + next(3) - 1
}

func TestSeatsOfGreaterJourneysAreAsDefined(t *testing.T) {
	next := numbers(2)
	count := map[bool]int{}
	for range 2000 {
		curves, left, value := journey(next)
		n := seatsAreAsDefined(t, curves, left, value, 1+next(30))
		count[n > 0]++
		seatsAreAsDefined(t, curves, left, value, n)
		seatsAreAsDefined(t, curves, left, value, n+1)
		seatsAreAsDefined(t, curves, left, value, math.MaxInt)
		seatsAreAsDefined(t, curves[:1], left[:1], value, math.MaxInt)
		seatsAreAsDefined(t, curves, left[1:], value, 5)
		seatsAreAsDefined(t, curves[1:], left, value, 5)
	}
	if count[true] < 500 || count[false] < 500 {
		t.Errorf("seats are accepted %d times, none %d times", count[true], count[false])
	}
}

// P14.3

// noneIsSmaller fails if a demand has a smaller bid price than another one, and tells if it has a greater one.
func noneIsSmaller(t *testing.T, less, more []api.Demand, seats int) bool {
	t.Helper()
	a, e := Curve(less, seats)
	b, x := Curve(more, seats)
	if e != api.OK || x != api.OK {
		t.Fatalf("Curve(%v, %d) is %d, Curve(%v, %d) is %d", less, seats, e, more, seats, x)
	}
	greater := false
	for left := -1; left <= seats+2; left++ {
		if Price(a, left) > Price(b, left) {
			t.Fatalf("of %d seats, %v has a smaller bid price than %v if %d are left: %v, %v", seats, more, less, left, b, a)
		}
		greater = greater || Price(a, left) < Price(b, left)
	}
	return greater
}

func TestMoreDemandMakesNoBidPriceSmaller(t *testing.T) {
	next := numbers(3)
	count := map[bool]int{}
	for range 3000 {
		less := demand(next)
		for _, n := range []int{0, 1, 3, 20, 200, api.MaxSeats} {
			added := api.Demand{Value: next(100), Count: next(20)}
			count[noneIsSmaller(t, less, slices.Insert(slices.Clone(less), next(len(less)+1), added), n)]++
			if len(less) == 0 {
				continue
			}
			i := next(len(less))
			d := less[i]
			d.Count += min(next(30), math.MaxInt-d.Count)
			count[noneIsSmaller(t, less, with(less, i, d), n)]++
			count[noneIsSmaller(t, slices.Delete(slices.Clone(less), i, i+1), less, n)]++
		}
	}
	if count[true] < 1000 || count[false] < 1000 {
		t.Errorf("%d times a bid price rises, %d times none", count[true], count[false])
	}
}

func TestGreaterValueMakesNoBidPriceSmaller(t *testing.T) {
	next := numbers(4)
	count := map[bool]int{}
	for range 3000 {
		less := append(demand(next), expected(next(100), 1+next(20))...)
		for _, n := range []int{0, 1, 3, 20, 200, api.MaxSeats} {
			i := next(len(less))
			d := less[i]
			d.Value = min(d.Value+next(100), api.MaxMoney)
			count[noneIsSmaller(t, less, with(less, i, d), n)]++
		}
	}
	if count[true] < 1000 || count[false] < 1000 {
		t.Errorf("%d times a bid price rises, %d times none", count[true], count[false])
	}
}

// One element more, or one that is greater.
func TestMoreOfAllSmallDemandsMakesNoBidPriceSmaller(t *testing.T) {
	var family []api.Demand
	for _, value := range []int{0, 1, 2, 4} {
		for count := range 4 {
			family = append(family, api.Demand{Value: value, Count: count})
		}
	}
	upTo(family, 2, func(less []api.Demand) {
		for _, d := range family {
			for n := range 7 {
				noneIsSmaller(t, less, append(slices.Clone(less), d), n)
				for i, x := range less {
					if d.Value >= x.Value && d.Count >= x.Count {
						noneIsSmaller(t, less, with(less, i, d), n)
					}
				}
			}
		}
	})
}

func TestGreaterValueAcceptsNoFewerSeats(t *testing.T) {
	next := numbers(5)
	rises := 0
	for range 3000 {
		curves, left, value := journey(next)
		most := 1 + next(30)
		fewer := 0
		for _, v := range slices.Sorted(slices.Values([]int{-1, 0, value - 1, value, value + 1, value + next(100), value + next(1000), math.MaxInt})) {
			n := Seats(curves, left, v, most)
			if n < fewer {
				t.Fatalf("Seats(%v, %v, %d, %d) = %d, and %d at a smaller value", curves, left, v, most, n, fewer)
			}
			if n > fewer {
				rises++
			}
			fewer = n
		}
	}
	if rises < 1000 {
		t.Errorf("more seats are accepted only %d times", rises)
	}
}

// moreLeft returns as many seats that are left, and more on one leg or on several ones.
func moreLeft(next func(n int) int, left []int) []int {
	i := next(len(left))
	more := with(left, i, left[i]+1+next(10))
	if next(2) == 0 {
		for k := range more {
			more[k] += next(10)
		}
	}
	return more
}

func TestMoreSeatsLeftAcceptNoFewerSeats(t *testing.T) {
	next := numbers(6)
	rises := 0
	for range 3000 {
		curves, left, value := journey(next)
		most := 1 + next(30)
		fewer := Seats(curves, left, value, most)
		for step := range 10 {
			more := moreLeft(next, left)
			if step == 9 {
				more = all(math.MaxInt, len(left))
			}
			n := Seats(curves, more, value, most)
			if n < fewer {
				t.Fatalf("Seats(%v, %v, %d, %d) = %d, and %d with %v", curves, more, value, most, n, fewer, left)
			}
			if n > fewer {
				rises++
			}
			left, fewer = more, n
		}
	}
	if rises < 1000 {
		t.Errorf("more seats are accepted only %d times", rises)
	}
}

// worthAddsUp fails if one more seat does not add its bid price.
func worthAddsUp(t *testing.T, c []int, n int) {
	t.Helper()
	if Worth(c, n+1) != Worth(c, n)+Price(c, n+1) {
		t.Fatalf("of %v, %d seats are worth %d, and one more makes it %d", c, n, Worth(c, n), Worth(c, n+1))
	}
}

func TestWorthAddsUp(t *testing.T) {
	next := numbers(7)
	l := curves()
	for range 300 {
		c, _ := Curve(demand(next), next(api.MaxSeats+1))
		l = append(l, c)
	}
	upTo(list(0, 1, 3, api.MaxMoney), 4, func(c []int) {
		if right(c) {
			l = append(l, c)
		}
	})
	for _, c := range l {
		for n := range len(c) + 5 {
			worthAddsUp(t, c, n)
		}
		worthAddsUp(t, c, 1<<32)
		worthAddsUp(t, c, math.MaxInt-1)
	}
}

// All promises

// spare returns a copy of a list that has memory behind its end, which is a copy of its elements.
func spare[T any](l []T) []T { return append(slices.Clone(l), l...)[:len(l)] }

// whole returns a copy of a list with the memory behind its end.
func whole[T any](l []T) []T { return slices.Clone(l[:cap(l)]) }

func TestDemandIsNotModified(t *testing.T) {
	next := numbers(8)
	lists := [][]api.Demand{nil, expected(100, 1, 300, 2), expected(1, 1, 2, 2, 3, 3), expected(100, 1, -1, 1, 300, -1), expected(1, math.MaxInt, 2, 1)}
	for range 300 {
		lists = append(lists, demand(next))
	}
	for _, l := range lists {
		l = spare(l)
		was := whole(l)
		for _, n := range []int{-1, 0, 1, 4, api.MaxSeats, api.MaxSeats + 1} {
			// Nor does a change of the result change the argument, or another result.
			c, e := Curve(l, n)
			clear(c[:cap(c)])
			again, x := Curve(l, n)
			want, _ := curve(l, n)
			if e != x || !slices.Equal(again, want) {
				t.Fatalf("Curve(%v, %d) = %v, %d, after %d", l, n, again, x, e)
			}
		}
		if !slices.Equal(was, whole(l)) {
			t.Fatalf("the argument was modified: %v, not %v", whole(l), was)
		}
	}
}

func TestCurvesAreNotModified(t *testing.T) {
	next := numbers(9)
	for range 300 {
		curves, left, value := journey(next)
		curves[0] = append(curves[0], 5, 9)
		for i := range curves {
			curves[i] = spare(curves[i])
		}
		curves, left = spare(curves), spare(left)
		was, numbers := whole(curves), whole(left)
		for i := range was {
			was[i] = whole(was[i])
		}
		for _, most := range []int{-1, 0, 1, 30, math.MaxInt} {
			Seats(curves, left, value, most)
			Seats(curves, left[1:], value, most)
		}
		for _, c := range curves {
			Right(c)
			for n := -1; n <= len(c)+1; n++ {
				Price(c, n)
				Worth(c, n)
			}
		}
		if !slices.Equal(numbers, whole(left)) || !slices.EqualFunc(was, whole(curves), func(a, b []int) bool { return slices.Equal(a, whole(b)) }) {
			t.Fatalf("an argument was modified: %v, %v", curves, left)
		}
	}
}

func TestWhatIsUnspecified(t *testing.T) {
	// Nothing is promised for such curves, but there is no panic (R1).
	for _, c := range wrongCurves() {
		for _, n := range append(extremes(), 0, 1, 2, 3) {
			Worth(c, n)
			for _, value := range append(extremes(), 0, 5) {
				for _, most := range []int{-1, 0, 5, math.MaxInt, math.MinInt} {
					Seats([][]int{c}, list(n), value, most)
					Seats([][]int{nil, c, {3}}, list(5, n, n), value, most)
				}
			}
		}
	}
	many := api.MaxSegs*api.MaxLegs + 1
	for _, legs := range []int{many, 10 * many} {
		for _, c := range [][]int{nil, {300, 100}, all(api.MaxMoney, api.MaxSeats), {math.MaxInt, math.MaxInt}} {
			for _, n := range append(extremes(), 0, 1, 5) {
				Seats(slices.Repeat([][]int{c}, legs), all(n, legs), 100, math.MaxInt)
				Seats(slices.Repeat([][]int{c}, legs), all(n, legs), math.MaxInt, math.MaxInt)
			}
		}
	}
}
