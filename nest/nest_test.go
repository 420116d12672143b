package nest

import (
	"fmt"
	"math"
	"slices"
	"testing"

	"airline/api"
	"airline/cabin"
)

// list returns a list, to write it shortly.
func list[T any](l ...T) []T { return l }

// in returns a cabin whose classes have these Protect.
func in(seats, over int, protects ...int) api.Cabin {
	c := api.Cabin{Name: "Y", Seats: seats, Over: over}
	for i, n := range protects {
		c.Classes = append(c.Classes, api.Class{Code: string(rune('A' + i)), Protect: n})
	}
	return c
}

// pair returns the cabin of the chapter, with the booking limits 11 and 8, and three one with the limits 11, 9 and 6.
func pair() api.Cabin { return in(10, 1, 3, 3) }

func three() api.Cabin { return in(10, 1, 2, 5, 5) }

// full returns a cabin with as many classes as there may be, with the booking limits 26, 25 and so on to 1.
func full() api.Cabin {
	var l []int
	for i := range api.MaxClasses {
		l = append(l, i+1)
	}
	return in(26, 0, l...)
}

// with returns a copy of numbers, one of them changed.
func with(l []int, i, n int) []int {
	l = slices.Clone(l)
	l[i] = n
	return l
}

// numbers returns a source of numbers from 0 to n - 1 that look like chance.
func numbers(seed uint64) func(n int) int {
	return func(n int) int {
		seed = seed*6364136223846793005 + 1442695040888963407
		return int(seed >> 33 % uint64(n))
	}
}

// each calls f with all lists of a number of elements from 0 to n - 1.
func each(elements, n int, f func(l []int)) {
	if elements == 0 {
		f(nil)
		return
	}
	each(elements-1, n, func(l []int) {
		for i := range n {
			f(append(slices.Clone(l), i))
		}
	})
}

// eachCabin calls f with all right cabins of up to 4 authorized seats and up to 3 classes.
func eachCabin(f func(c api.Cabin)) {
	for seats := 1; seats <= 4; seats++ {
		for over := 0; seats+over <= 4; over++ {
			for classes := 1; classes <= 3; classes++ {
				each(classes, seats+over+1, func(protects []int) {
					if slices.IsSorted(protects) {
						f(in(seats, over, protects...))
					}
				})
			}
		}
	}
}

// eachState calls f with those cabins and all numbers of seats sold that exceed the authorized level by 1 at most.
func eachState(f func(c api.Cabin, sold []int)) {
	eachCabin(func(c api.Cabin) {
		each(len(c.Classes), c.Seats+c.Over+2, func(sold []int) { f(c, sold) })
	})
}

// greater returns a right cabin of any size.
func greater(next func(n int) int) api.Cabin {
	c := in(1+next(api.MaxSeats), next(2)*next(api.MaxSeats+1), make([]int, 1+next(api.MaxClasses))...)
	var protects []int
	for range c.Classes {
		protects = append(protects, next(c.Seats+c.Over+1))
	}
	slices.Sort(protects)
	for i, n := range protects {
		c.Classes[i].Protect = n
	}
	return c
}

func TestCabinsAreRight(t *testing.T) {
	n := 0
	check := func(c api.Cabin) {
		n++
		if l := cabin.Check(list(api.Config{Equip: "320", Cabins: list(c)})); len(l) > 0 {
			t.Fatalf("the cabin %v is not right: %v", c, l)
		}
	}
	check(pair())
	check(three())
	check(full())
	eachCabin(check)
	if n < 300 {
		t.Errorf("there are only %d cabins", n)
	}
	next := numbers(1)
	for range 2000 {
		check(greater(next))
	}
}

// The definitions of the chapter.

func limit(c api.Cabin, rank int) int {
	if rank == 0 {
		return c.Seats + c.Over
	}
	return c.Seats + c.Over - c.Classes[rank-1].Protect
}

func nested(sold []int, rank int) int {
	n := 0
	for i := rank; i < len(sold); i++ {
		n += sold[i]
	}
	return n
}

func right(c api.Cabin, sold []int) bool {
	for _, n := range sold {
		if n < 0 || n > 9999 {
			return false
		}
	}
	return len(sold) == len(c.Classes)
}

func fits(c api.Cabin, sold []int) bool {
	for i := range sold {
		if nested(sold, i) > limit(c, i) {
			return false
		}
	}
	return true
}

func excess(c api.Cabin, sold []int) int {
	l := list(0)
	for i := range sold {
		l = append(l, nested(sold, i)-limit(c, i))
	}
	return slices.Max(l)
}

func open(c api.Cabin, sold []int, rank int) int {
	var l []int
	for i := range rank + 1 {
		l = append(l, limit(c, i)-nested(sold, i))
	}
	return max(slices.Min(l), 0)
}

func opens(c api.Cabin, sold []int) []int {
	var l []int
	for i := range sold {
		l = append(l, open(c, sold, i))
	}
	return l
}

// sell and cancel return the numbers that are described, or the errors.
func sell(c api.Cabin, sold []int, rank, n int) ([]int, api.Errno) {
	switch {
	case !right(c, sold) || n <= 0:
		return nil, api.ErrArg
	case rank < 0 || rank > len(c.Classes)-1:
		return nil, api.ErrClass
	case open(c, sold, rank) < n:
		return nil, api.ErrClosed
	}
	return with(sold, rank, sold[rank]+n), api.OK
}

func cancel(c api.Cabin, sold []int, rank, n int) ([]int, api.Errno) {
	switch {
	case !right(c, sold) || n <= 0:
		return nil, api.ErrArg
	case rank < 0 || rank > len(c.Classes)-1:
		return nil, api.ErrClass
	case sold[rank] < n:
		return nil, api.ErrArg
	}
	return with(sold, rank, sold[rank]-n), api.OK
}

// P13.1

// numbersAre fails if Open, Fits and Excess are not these.
func numbersAre(t *testing.T, c api.Cabin, sold, open []int, fits bool, excess int) {
	t.Helper()
	if l := Open(c, sold); !slices.Equal(l, open) {
		t.Errorf("Open(%v, %v) = %v, not %v", c, sold, l, open)
	}
	if ok := Fits(c, sold); ok != fits {
		t.Errorf("Fits(%v, %v) = %t", c, sold, ok)
	}
	if n := Excess(c, sold); n != excess {
		t.Errorf("Excess(%v, %v) = %d, not %d", c, sold, n, excess)
	}
}

// fit fails if sales do not fit, or if Open is not this; exceed fails if they do fit, or if Open and Excess are not these.
func fit(t *testing.T, c api.Cabin, sold, open []int) {
	t.Helper()
	numbersAre(t, c, sold, open, true, 0)
}

func exceed(t *testing.T, c api.Cabin, sold, open []int, excess int) {
	t.Helper()
	numbersAre(t, c, sold, open, false, excess)
}

func TestOpenOfExamples(t *testing.T) {
	fit(t, pair(), list(0, 0), list(11, 8))
	fit(t, pair(), list(4, 5), list(2, 2))
	fit(t, pair(), list(0, 8), list(3, 0))
	exceed(t, pair(), list(4, 9), list(0, 0), 2)
	// Example 3 of DOC.md: at most 8 in M and 11 in both.
	fit(t, pair(), list(3, 8), list(0, 0))
	exceed(t, pair(), list(0, 9), list(2, 0), 1)
	exceed(t, pair(), list(4, 8), list(0, 0), 1)
}

func TestOpenOfOneClass(t *testing.T) {
	// Protect of the last class counts for no limit.
	for _, protect := range []int{0, 1, 5, 10} {
		c := in(10, 0, protect)
		fit(t, c, list(0), list(10))
		fit(t, c, list(1), list(9))
		fit(t, c, list(9), list(1))
		fit(t, c, list(10), list(0))
		exceed(t, c, list(11), list(0), 1)
		exceed(t, c, list(9999), list(0), 9989)
		// Over counts as seats.
		fit(t, in(8, 2, protect), list(0), list(10))
		fit(t, in(1, 9, protect), list(10), list(0))
		exceed(t, in(8, 2, protect), list(11), list(0), 1)
		fit(t, in(10, 1, protect), list(10), list(1))
		fit(t, in(10, 1, protect), list(11), list(0))
		exceed(t, in(10, 1, protect), list(12), list(0), 1)
	}
	fit(t, in(1, 0, 0), list(0), list(1))
	fit(t, in(1, 0, 1), list(1), list(0))
	exceed(t, in(1, 0, 1), list(2), list(0), 1)
	fit(t, in(999, 999, 0), list(0), list(1998))
	fit(t, in(999, 999, 0), list(1998), list(0))
	exceed(t, in(999, 999, 0), list(1999), list(0), 1)
}

func TestOpenOfTwoClasses(t *testing.T) {
	// The first class at its limit, and one below and above it.
	fit(t, pair(), list(10, 0), list(1, 1))
	fit(t, pair(), list(11, 0), list(0, 0))
	exceed(t, pair(), list(12, 0), list(0, 0), 1)
	// The last class at its limit, and one below and above it.
	fit(t, pair(), list(0, 7), list(4, 1))
	fit(t, pair(), list(2, 7), list(2, 1))
	fit(t, pair(), list(3, 7), list(1, 1))
	fit(t, pair(), list(2, 8), list(1, 0))
	exceed(t, pair(), list(2, 9), list(0, 0), 1)
	// Both above them.
	exceed(t, pair(), list(3, 9), list(0, 0), 1)
	exceed(t, pair(), list(0, 12), list(0, 0), 4)
	exceed(t, pair(), list(9, 9), list(0, 0), 7)
	exceed(t, pair(), list(9999, 0), list(0, 0), 9988)
	exceed(t, pair(), list(0, 9999), list(0, 0), 9991)
	exceed(t, pair(), list(9999, 9999), list(0, 0), 19987)
}

func TestOpenOfProtect(t *testing.T) {
	// Nothing is kept for the first class.
	fit(t, in(10, 1, 0, 5), list(0, 0), list(11, 11))
	fit(t, in(10, 1, 0, 5), list(4, 3), list(4, 4))
	fit(t, in(10, 1, 0, 0), list(0, 11), list(0, 0))
	exceed(t, in(10, 1, 0, 11), list(0, 12), list(0, 0), 1)
	// Everything is kept for it.
	fit(t, in(10, 1, 11, 11), list(0, 0), list(11, 0))
	fit(t, in(10, 1, 11, 11), list(4, 0), list(7, 0))
	exceed(t, in(10, 1, 11, 11), list(0, 1), list(10, 0), 1)
	exceed(t, in(10, 1, 11, 11), list(0, 11), list(0, 0), 11)
	fit(t, in(999, 999, 1998, 1998), list(0, 0), list(1998, 0))
	exceed(t, in(999, 999, 1998, 1998), list(0, 1), list(1997, 0), 1)
	// As much for the first one as for the first two.
	fit(t, in(10, 0, 4, 4, 4), list(0, 0, 0), list(10, 6, 6))
	fit(t, in(10, 0, 4, 4, 4), list(1, 2, 3), list(4, 1, 1))
	fit(t, in(10, 0, 4, 4, 4), list(4, 0, 6), list(0, 0, 0))
	exceed(t, in(10, 0, 4, 4, 4), list(0, 1, 6), list(3, 0, 0), 1)
	fit(t, in(10, 0, 0, 0, 10), list(1, 2, 3), list(4, 4, 4))
	fit(t, in(10, 0, 0, 10, 10), list(1, 2, 0), list(7, 7, 0))
}

func TestOpenOfThreeClasses(t *testing.T) {
	c := three()
	fit(t, c, list(0, 0, 0), list(11, 9, 6))
	fit(t, c, list(2, 3, 6), list(0, 0, 0))
	fit(t, c, list(1, 3, 6), list(1, 0, 0))
	fit(t, c, list(2, 2, 6), list(1, 1, 0))
	fit(t, c, list(2, 3, 5), list(1, 1, 1))
	fit(t, c, list(1, 5, 1), list(4, 3, 3))
	// The first class at its limit, and one below and above it.
	fit(t, c, list(7, 1, 2), list(1, 1, 1))
	fit(t, c, list(8, 1, 2), list(0, 0, 0))
	exceed(t, c, list(9, 1, 2), list(0, 0, 0), 1)
	// The second class.
	fit(t, c, list(0, 6, 2), list(3, 1, 1))
	fit(t, c, list(0, 7, 2), list(2, 0, 0))
	exceed(t, c, list(0, 8, 2), list(1, 0, 0), 1)
	// The last class.
	fit(t, c, list(0, 0, 5), list(6, 4, 1))
	fit(t, c, list(0, 0, 6), list(5, 3, 0))
	exceed(t, c, list(0, 0, 7), list(4, 2, 0), 1)
	// The least difference belongs to a class before.
	fit(t, c, list(10, 0, 0), list(1, 1, 1))
	fit(t, c, list(4, 3, 0), list(4, 4, 4))
	fit(t, c, list(0, 5, 0), list(6, 4, 4))
}

func TestExcessOfSeveralClasses(t *testing.T) {
	c := three()
	exceed(t, c, list(9, 4, 7), list(0, 0, 0), 9)
	exceed(t, c, list(0, 8, 7), list(0, 0, 0), 6)
	exceed(t, c, list(0, 0, 12), list(0, 0, 0), 6)
	// Two of the three.
	exceed(t, c, list(4, 6, 4), list(0, 0, 0), 3)
	exceed(t, c, list(0, 5, 6), list(0, 0, 0), 2)
	exceed(t, c, list(0, 1, 9), list(1, 0, 0), 3)
	exceed(t, c, list(5, 1, 7), list(0, 0, 0), 2)
	// Equal ones.
	exceed(t, c, list(2, 3, 7), list(0, 0, 0), 1)
}

func TestOpenOfManyClasses(t *testing.T) {
	c := full()
	none, ones := make([]int, 26), slices.Repeat(list(1), 26)
	var limits []int
	for i := range 26 {
		limits = append(limits, 26-i)
	}
	fit(t, c, none, limits)
	fit(t, c, ones, none)
	for i := range 26 {
		// One more above the limits of this class and those before it, one less below them.
		exceed(t, c, with(ones, i, 2), none, 1)
		fit(t, c, with(ones, i, 0), append(slices.Repeat(list(1), i+1), none[i+1:]...))
		exceed(t, c, with(none, i, 27), none, 27-(26-i))
		exceed(t, c, with(none, i, 9999), none, 9999-(26-i))
		// So many seats are not sold from this class on.
		want := slices.Clone(limits)
		for k := range want {
			if k <= i {
				want[k] -= 26 - i
			} else {
				want[k] = min(want[k], want[k-1])
			}
		}
		fit(t, c, with(none, i, 26-i), want)
	}
	exceed(t, c, slices.Repeat(list(9999), 26), none, 26*9999-26)
	fit(t, in(999, 999, make([]int, 26)...), none, slices.Repeat(list(1998), 26))
	fit(t, in(999, 999, make([]int, 26)...), slices.Repeat(list(76), 26), slices.Repeat(list(22), 26))
	exceed(t, in(999, 999, make([]int, 26)...), slices.Repeat(list(77), 26), none, 4)
}

// wrongNumbers are numbers of seats that are not right. Some are right in 16 or 32 bits.
func wrongNumbers() []int {
	return []int{-1, -2, -9999, -10000, 10000, 10001, 1 << 16, 1<<16 + 5, 1 << 31, 1 << 32, 1<<32 + 5, -1 << 32, -1<<32 + 5, math.MaxInt, math.MinInt, math.MinInt + 1}
}

// wrong calls f with numbers that are not right for a cabin.
func wrong(c api.Cabin, f func(sold []int)) {
	f(nil)
	f([]int{})
	zeros := make([]int, len(c.Classes))
	if len(zeros) > 1 {
		f(zeros[1:])
		f(slices.Repeat(list(10), len(zeros)-1))
	}
	f(append(slices.Clone(zeros), 0))
	f(append(slices.Clone(zeros), 1))
	f(make([]int, len(zeros)+100))
	for i := range zeros {
		for _, n := range wrongNumbers() {
			f(with(zeros, i, n))
			f(append(with(zeros, i, n), 0))
			// Together with others that make up for it.
			if i > 0 {
				f(with(with(zeros, i, n), i-1, -n))
				f(with(with(zeros, i, n), 0, 5))
			}
		}
	}
}

func TestNumbersOfWrongLists(t *testing.T) {
	for _, c := range list(in(10, 0, 0), pair(), three(), full()) {
		wrong(c, func(sold []int) { numbersAre(t, c, sold, nil, false, 0) })
	}
	// These are right for another cabin.
	numbersAre(t, pair(), list(0), nil, false, 0)
	numbersAre(t, pair(), list(1, 2, 3), nil, false, 0)
	numbersAre(t, three(), list(4, 5), nil, false, 0)
	numbersAre(t, three(), list(0, 0, 0, 0), nil, false, 0)
}

// The greatest numbers are right in each class, and with them the sales of others count.
func TestNumbersOfGreatestLists(t *testing.T) {
	c := three()
	exceed(t, c, list(9999, 0, 0), list(0, 0, 0), 9988)
	exceed(t, c, list(0, 9999, 0), list(0, 0, 0), 9990)
	exceed(t, c, list(0, 0, 9999), list(0, 0, 0), 9993)
	exceed(t, c, list(9998, 0, 0), list(0, 0, 0), 9987)
	exceed(t, c, list(9999, 9999, 9999), list(0, 0, 0), 3*9999-11)
	exceed(t, c, list(0, 9999, 1), list(0, 0, 0), 9991)
}

// numbersAreAsDefined fails if Open, Fits and Excess are not what is described.
func numbersAreAsDefined(t *testing.T, c api.Cabin, sold []int) {
	t.Helper()
	if !right(c, sold) {
		numbersAre(t, c, sold, nil, false, 0)
		return
	}
	numbersAre(t, c, sold, opens(c, sold), fits(c, sold), excess(c, sold))
}

func TestNumbersAreAsDefined(t *testing.T) {
	count := map[bool]int{}
	eachState(func(c api.Cabin, sold []int) {
		numbersAreAsDefined(t, c, sold)
		numbersAreAsDefined(t, c, append(slices.Clone(sold), 0))
		numbersAreAsDefined(t, c, sold[1:])
		count[fits(c, sold)]++
	})
	if count[true] < 5000 || count[false] < 5000 {
		t.Errorf("%d sales fit, %d do not", count[true], count[false])
	}
}

// sales returns right numbers of seats sold in a cabin. Some of them fit.
func sales(next func(n int) int, c api.Cabin) []int {
	sold := make([]int, len(c.Classes))
	for range next(2 * len(sold)) {
		rank := next(len(sold))
		sold[rank] += next(2*open(c, sold, rank)/(1+next(4)) + 2)
	}
	return sold
}

func TestNumbersOfGreaterCabinsAreAsDefined(t *testing.T) {
	next := numbers(2)
	count := map[bool]int{}
	for range 5000 {
		c := greater(next)
		sold := sales(next, c)
		numbersAreAsDefined(t, c, sold)
		numbersAreAsDefined(t, c, with(sold, next(len(sold)), next(10100)-50))
		count[fits(c, sold)]++
	}
	if count[true] < 1000 || count[false] < 1000 {
		t.Errorf("%d sales fit, %d do not", count[true], count[false])
	}
}

// P13.2

// change is Sell or Cancel.
type change func(c api.Cabin, sold []int, rank, n int) ([]int, api.Errno)

// becomes fails if a change does not return these numbers, and fails an error if it does not return this error.
func becomes(t *testing.T, f change, c api.Cabin, sold []int, rank, n int, want ...int) {
	t.Helper()
	if l, e := f(c, sold, rank, n); e != api.OK || !slices.Equal(l, want) {
		t.Errorf("of %d in class %d of %v at %v: %v, %d, not %v", n, rank, c, sold, l, e, want)
	}
}

func fails(t *testing.T, f change, c api.Cabin, sold []int, rank, n int, want api.Errno) {
	t.Helper()
	if l, e := f(c, sold, rank, n); e != want || len(l) != 0 {
		t.Errorf("of %d in class %d of %v at %v: %v, %d, not the error %d", n, rank, c, sold, l, e, want)
	}
}

func TestSellOfExamples(t *testing.T) {
	becomes(t, Sell, pair(), list(4, 5), 1, 2, 4, 7)
	fails(t, Sell, pair(), list(4, 5), 1, 3, api.ErrClosed)
}

func TestSell(t *testing.T) {
	becomes(t, Sell, pair(), list(0, 0), 0, 1, 1, 0)
	becomes(t, Sell, pair(), list(0, 0), 1, 1, 0, 1)
	becomes(t, Sell, pair(), list(4, 5), 0, 1, 5, 5)
	becomes(t, Sell, pair(), list(4, 5), 0, 2, 6, 5)
	becomes(t, Sell, pair(), list(4, 5), 1, 1, 4, 6)
	becomes(t, Sell, three(), list(1, 2, 3), 1, 2, 1, 4, 3)
	// Exactly what there is, and one more.
	for _, c := range []struct {
		cabin      api.Cabin
		sold       []int
		rank, most int
	}{
		{in(10, 0, 0), list(0), 0, 10}, {in(10, 0, 0), list(9), 0, 1}, {in(10, 1, 0), list(0), 0, 11}, {in(1, 0, 1), list(0), 0, 1}, {in(999, 999, 0), list(0), 0, 1998},
		{pair(), list(0, 0), 0, 11}, {pair(), list(0, 0), 1, 8}, {pair(), list(4, 5), 0, 2}, {pair(), list(4, 5), 1, 2}, {pair(), list(0, 7), 1, 1}, {pair(), list(0, 8), 0, 3}, {pair(), list(9, 0), 1, 2},
		{three(), list(0, 0, 0), 0, 11}, {three(), list(0, 0, 0), 1, 9}, {three(), list(0, 0, 0), 2, 6}, {three(), list(0, 5, 0), 2, 4}, {three(), list(9, 0, 0), 2, 2}, {three(), list(0, 7, 2), 0, 2},
		{full(), make([]int, 26), 0, 26}, {full(), make([]int, 26), 13, 13}, {full(), make([]int, 26), 25, 1},
	} {
		becomes(t, Sell, c.cabin, c.sold, c.rank, c.most, with(c.sold, c.rank, c.sold[c.rank]+c.most)...)
		fails(t, Sell, c.cabin, c.sold, c.rank, c.most+1, api.ErrClosed)
		fails(t, Sell, c.cabin, c.sold, c.rank, math.MaxInt, api.ErrClosed)
		fails(t, Sell, c.cabin, c.sold, c.rank, 1<<32+1, api.ErrClosed)
	}
	// Nothing is for sale.
	for rank := range 2 {
		fails(t, Sell, pair(), list(3, 8), rank, 1, api.ErrClosed)
		fails(t, Sell, pair(), list(11, 0), rank, 1, api.ErrClosed)
	}
	fails(t, Sell, pair(), list(0, 8), 1, 1, api.ErrClosed)
	fails(t, Sell, in(10, 1, 11, 11), list(0, 0), 1, 1, api.ErrClosed)
	for rank := range 26 {
		fails(t, Sell, full(), slices.Repeat(list(1), 26), rank, 1, api.ErrClosed)
	}
}

func TestSellOfSalesThatDoNotFit(t *testing.T) {
	// In a class before the one that exceeds its limit, there may be seats.
	becomes(t, Sell, pair(), list(0, 9), 0, 1, 1, 9)
	becomes(t, Sell, pair(), list(0, 9), 0, 2, 2, 9)
	fails(t, Sell, pair(), list(0, 9), 0, 3, api.ErrClosed)
	fails(t, Sell, pair(), list(0, 9), 1, 1, api.ErrClosed)
	becomes(t, Sell, three(), list(0, 0, 7), 1, 2, 0, 2, 7)
	becomes(t, Sell, three(), list(0, 0, 7), 0, 4, 4, 0, 7)
	fails(t, Sell, three(), list(0, 0, 7), 1, 3, api.ErrClosed)
	fails(t, Sell, three(), list(0, 0, 7), 0, 5, api.ErrClosed)
	fails(t, Sell, three(), list(0, 8, 2), 2, 1, api.ErrClosed)
	for rank := range 2 {
		fails(t, Sell, pair(), list(4, 9), rank, 1, api.ErrClosed)
		fails(t, Sell, pair(), list(12, 0), rank, 1, api.ErrClosed)
		fails(t, Sell, pair(), list(9999, 9999), rank, 1, api.ErrClosed)
	}
}

func TestCancel(t *testing.T) {
	becomes(t, Cancel, pair(), list(4, 5), 0, 1, 3, 5)
	becomes(t, Cancel, pair(), list(4, 5), 1, 1, 4, 4)
	becomes(t, Cancel, three(), list(1, 2, 3), 2, 2, 1, 2, 1)
	becomes(t, Cancel, in(10, 0, 0), list(10), 0, 10, 0)
	// Exactly what is sold, and one more, whether the sales fit or not.
	for _, sold := range [][]int{{4, 5, 1}, {1, 1, 1}, {11, 1, 6}, {9999, 9999, 9999}, {9998, 1, 9999}} {
		for rank, n := range sold {
			becomes(t, Cancel, three(), sold, rank, n, with(sold, rank, 0)...)
			becomes(t, Cancel, three(), sold, rank, 1, with(sold, rank, n-1)...)
			fails(t, Cancel, three(), sold, rank, n+1, api.ErrArg)
			fails(t, Cancel, three(), sold, rank, math.MaxInt, api.ErrArg)
			fails(t, Cancel, three(), sold, rank, 1<<32+1, api.ErrArg)
		}
	}
	// What is sold in another class does not count.
	fails(t, Cancel, pair(), list(0, 5), 0, 1, api.ErrArg)
	fails(t, Cancel, pair(), list(4, 0), 1, 1, api.ErrArg)
	fails(t, Cancel, pair(), list(4, 5), 0, 5, api.ErrArg)
	fails(t, Cancel, three(), list(5, 0, 5), 1, 1, api.ErrArg)
	for rank := range 26 {
		fails(t, Cancel, full(), make([]int, 26), rank, 1, api.ErrArg)
		becomes(t, Cancel, full(), slices.Repeat(list(1), 26), rank, 1, with(slices.Repeat(list(1), 26), rank, 0)...)
	}
}

// both fails if Sell or Cancel does not return an error.
func both(t *testing.T, c api.Cabin, sold []int, rank, n int, want api.Errno) {
	t.Helper()
	fails(t, Sell, c, sold, rank, n, want)
	fails(t, Cancel, c, sold, rank, n, want)
}

func TestErrorsOfSellAndCancel(t *testing.T) {
	few := []int{0, -1, -2, -11, -9999, -1 << 32, -1<<32 + 1, math.MinInt, math.MinInt + 1}
	for _, c := range []struct {
		cabin api.Cabin
		sold  []int
	}{
		{in(10, 0, 0), list(5)}, {pair(), list(4, 5)}, {pair(), list(3, 8)}, {pair(), list(0, 0)}, {pair(), list(4, 9)}, {three(), list(1, 2, 3)}, {full(), slices.Repeat(list(1), 26)},
	} {
		none := []int{-1, -2, len(c.sold), len(c.sold) + 1, 26, 1 << 32, 1<<32 + 1, -1 << 32, -1<<32 + 1, math.MaxInt, math.MinInt}
		for rank := range c.sold {
			for _, n := range few {
				both(t, c.cabin, c.sold, rank, n, api.ErrArg)
			}
		}
		for _, rank := range none {
			// A class that does not exist, with seats that there are and that there are not.
			for _, n := range []int{1, 2, 12, 9999, math.MaxInt} {
				both(t, c.cabin, c.sold, rank, n, api.ErrClass)
			}
			for _, n := range few {
				both(t, c.cabin, c.sold, rank, n, api.ErrArg)
			}
		}
		wrong(c.cabin, func(sold []int) {
			for _, rank := range []int{-1, 0, len(c.sold) - 1, len(c.sold), len(sold), math.MaxInt, math.MinInt} {
				for _, n := range []int{-1, 0, 1, 5, 12, math.MaxInt, math.MinInt} {
					both(t, c.cabin, sold, rank, n, api.ErrArg)
				}
			}
		})
	}
	// The last class exists, one more does not, however many elements are given.
	becomes(t, Sell, full(), make([]int, 26), 25, 1, with(make([]int, 26), 25, 1)...)
	both(t, full(), make([]int, 26), 26, 1, api.ErrClass)
	both(t, full(), make([]int, 27), 26, 1, api.ErrArg)
}

// same fails if a change does not return what another one does.
func same(t *testing.T, f, defined change, c api.Cabin, sold []int, rank, n int) api.Errno {
	t.Helper()
	l, e := f(c, sold, rank, n)
	if want, x := defined(c, sold, rank, n); !slices.Equal(l, want) || e != x {
		t.Fatalf("of %d in class %d of %v at %v: %v, %d, not %v, %d", n, rank, c, sold, l, e, want, x)
	}
	return e
}

func TestSellAndCancelAreAsDefined(t *testing.T) {
	count := map[api.Errno]int{}
	eachState(func(c api.Cabin, sold []int) {
		for rank := -1; rank <= len(c.Classes); rank++ {
			for n := -1; n <= c.Seats+c.Over+2; n++ {
				count[same(t, Sell, sell, c, sold, rank, n)]++
				same(t, Cancel, cancel, c, sold, rank, n)
			}
		}
	})
	for _, e := range []api.Errno{api.OK, api.ErrArg, api.ErrClass, api.ErrClosed} {
		if count[e] < 1000 {
			t.Errorf("the error %d occurs %d times", e, count[e])
		}
	}
}

func TestSellAndCancelOfGreaterCabinsAreAsDefined(t *testing.T) {
	next := numbers(3)
	for range 2000 {
		c := greater(next)
		sold := sales(next, c)
		for rank := -1; rank <= len(sold); rank++ {
			same(t, Sell, sell, c, sold, rank, next(20)-2)
			same(t, Cancel, cancel, c, sold, rank, next(20)-2)
			if 0 <= rank && rank < len(sold) {
				for i := -1; i <= 1; i++ {
					same(t, Sell, sell, c, sold, rank, open(c, sold, rank)+i)
					same(t, Cancel, cancel, c, sold, rank, sold[rank]+i)
				}
			}
		}
	}
}

// P13.3

// staysRight fails if sales that fit do not fit after Sell and Cancel, or if Open is not the most that can be sold.
func staysRight(t *testing.T, c api.Cabin, sold []int) {
	t.Helper()
	for rank, most := range Open(c, sold) {
		for n := 1; n <= most; n++ {
			l, e := Sell(c, sold, rank, n)
			if e != api.OK || !Fits(c, l) || !fits(c, l) {
				t.Fatalf("Sell(%v, %v, %d, %d) = %v, %d", c, sold, rank, n, l, e)
			}
		}
		fails(t, Sell, c, sold, rank, most+1, api.ErrClosed)
		// One more would really be too many.
		if fits(c, with(sold, rank, sold[rank]+most+1)) {
			t.Fatalf("Open(%v, %v) of %d is only %d", c, sold, rank, most)
		}
		for n := 1; n <= sold[rank]; n++ {
			l, e := Cancel(c, sold, rank, n)
			if e != api.OK || !Fits(c, l) || !fits(c, l) {
				t.Fatalf("Cancel(%v, %v, %d, %d) = %v, %d", c, sold, rank, n, l, e)
			}
		}
	}
}

func TestSalesThatFitStillFit(t *testing.T) {
	eachState(func(c api.Cabin, sold []int) {
		if fits(c, sold) {
			staysRight(t, c, sold)
		}
	})
	next := numbers(4)
	count := 0
	for range 1000 {
		c := greater(next)
		if sold := sales(next, c); fits(c, sold) {
			staysRight(t, c, sold)
			count++
		}
	}
	if count < 200 {
		t.Errorf("the sales of only %d cabins fit", count)
	}
}

// Also of sales that do not fit, Open is the most that Sell sells.
func TestSellSellsWhatIsOpen(t *testing.T) {
	eachState(func(c api.Cabin, sold []int) {
		for rank, most := range Open(c, sold) {
			if most > 0 {
				becomes(t, Sell, c, sold, rank, most, with(sold, rank, sold[rank]+most)...)
			}
			fails(t, Sell, c, sold, rank, most+1, api.ErrClosed)
		}
	})
}

// P13.4

// isUndone fails if a change after another one does not return the numbers as they were.
func isUndone(t *testing.T, f, back change, c api.Cabin, sold []int, rank, n int) {
	t.Helper()
	l, e := f(c, sold, rank, n)
	if e != api.OK {
		t.Fatalf("of %d in class %d of %v at %v: %d", n, rank, c, sold, e)
	}
	becomes(t, back, c, l, rank, n, sold...)
}

func TestCancelAfterSell(t *testing.T) {
	isUndone(t, Sell, Cancel, pair(), list(4, 5), 1, 2)
	isUndone(t, Sell, Cancel, pair(), list(0, 9), 0, 2)
	isUndone(t, Sell, Cancel, full(), make([]int, 26), 25, 1)
	eachState(func(c api.Cabin, sold []int) {
		for rank := range sold {
			for n := 1; n <= open(c, sold, rank); n++ {
				isUndone(t, Sell, Cancel, c, sold, rank, n)
			}
		}
	})
}

func TestSellAfterCancel(t *testing.T) {
	isUndone(t, Cancel, Sell, pair(), list(4, 5), 1, 5)
	isUndone(t, Cancel, Sell, full(), slices.Repeat(list(1), 26), 25, 1)
	eachState(func(c api.Cabin, sold []int) {
		for rank := range sold {
			for n := 1; fits(c, sold) && n <= sold[rank]; n++ {
				isUndone(t, Cancel, Sell, c, sold, rank, n)
			}
		}
	})
	// Seats that did not fit are not sold again.
	l, e := Cancel(pair(), list(4, 9), 1, 9)
	if e != api.OK {
		t.Error(e)
	}
	fails(t, Sell, pair(), l, 1, 9, api.ErrClosed)
	becomes(t, Sell, pair(), l, 1, 7, 4, 7)
}

func TestClassBeforeHasAsManySeats(t *testing.T) {
	descends := func(c api.Cabin, sold []int) {
		l := Open(c, sold)
		for i := 1; i < len(l); i++ {
			if l[i-1] < l[i] {
				t.Fatalf("Open(%v, %v) = %v", c, sold, l)
			}
		}
	}
	eachState(descends)
	next := numbers(5)
	for range 3000 {
		c := greater(next)
		descends(c, sales(next, c))
	}
}

// P13.5

// reached returns all numbers that can be sold from an empty cabin on, by sales and cancellations of any sizes.
func reached(c api.Cabin) map[string][]int {
	all := map[string][]int{}
	todo := [][]int{make([]int, len(c.Classes))}
	for len(todo) > 0 {
		sold := todo[0]
		todo = todo[1:]
		if all[fmt.Sprint(sold)] != nil {
			continue
		}
		all[fmt.Sprint(sold)] = sold
		for rank := range sold {
			for n := 1; n <= c.Seats+c.Over+1; n++ {
				for _, f := range []change{Sell, Cancel} {
					if l, e := f(c, sold, rank, n); e == api.OK {
						todo = append(todo, l)
					}
				}
			}
		}
	}
	return all
}

func TestWhatIsSoldFromEmptyCabinOn(t *testing.T) {
	eachCabin(func(c api.Cabin) {
		l := reached(c)
		most := 0
		for _, sold := range l {
			most = max(most, nested(sold, 0))
			if !fits(c, sold) {
				t.Fatalf("in %v, %v are sold", c, sold)
			}
		}
		if most != c.Seats+c.Over {
			t.Fatalf("in %v, at most %d are sold", c, most)
		}
		// All sales that fit can be reached.
		each(len(c.Classes), c.Seats+c.Over+1, func(sold []int) {
			if fits(c, sold) && l[fmt.Sprint(sold)] == nil {
				t.Fatalf("in %v, %v are not sold", c, sold)
			}
		})
	})
}

// walk sells and cancels seats in an empty cabin, keeps its own account of them, and returns how many calls were refused and how often the cabin was full.
func walk(t *testing.T, next func(n int) int, c api.Cabin, steps int) (refused, fulls int) {
	t.Helper()
	want := make([]int, len(c.Classes))
	sold := slices.Clone(want)
	for range steps {
		rank := next(len(want))
		f, n := change(Sell), 1+next(2+Open(c, sold)[rank])
		if next(3) == 0 {
			f, n = Cancel, -1-next(2+want[rank])
		}
		l, e := f(c, sold, rank, max(n, -n))
		if e == api.OK {
			sold = l
			want[rank] += n
		} else {
			refused++
		}
		total := nested(sold, 0)
		if !slices.Equal(sold, want) || total > cabin.Authorized(c) || !Fits(c, sold) {
			t.Fatalf("in %v, %v are sold, not %v", c, sold, want)
		}
		if total == cabin.Authorized(c) {
			fulls++
		}
	}
	return refused, fulls
}

func TestSalesAndCancellations(t *testing.T) {
	next := numbers(6)
	refused, fulls := 0, 0
	for range 500 {
		r, f := walk(t, next, greater(next), 200)
		refused += r
		fulls += f
	}
	if refused < 1000 || fulls < 1000 {
		t.Errorf("%d calls were refused, %d times the cabin was full", refused, fulls)
	}
}

// All promises

// results calls all functions and returns the lists that they return.
func results(c api.Cabin, sold []int) [][]int {
	Fits(c, sold)
	Excess(c, sold)
	l := [][]int{Open(c, sold)}
	for rank := -1; rank <= len(sold); rank++ {
		for n := -1; n <= 9; n++ {
			more, _ := Sell(c, sold, rank, n)
			fewer, _ := Cancel(c, sold, rank, n)
			l = append(l, more, fewer)
		}
	}
	return l
}

// spare returns a copy of a list that has memory behind its end, which is a copy of its elements.
func spare[T any](l []T) []T { return append(slices.Clone(l), l...)[:len(l)] }

// whole returns a copy of a list with the memory behind its end.
func whole[T any](l []T) []T { return slices.Clone(l[:cap(l)]) }

func TestArgumentsAreNotModified(t *testing.T) {
	for _, c := range list(in(10, 0, 5), pair(), three(), full()) {
		c.Classes = spare(c.Classes)
		check := func(sold []int) {
			sold = spare(sold)
			classes, numbers := whole(c.Classes), whole(sold)
			for range 2 {
				// Nor does a change of the results change the arguments.
				for _, l := range results(c, sold) {
					clear(l[:cap(l)])
				}
			}
			if !slices.Equal(classes, whole(c.Classes)) || !slices.Equal(numbers, whole(sold)) {
				t.Fatalf("an argument was modified: %v, %v, not %v, %v", c, sold, classes, numbers)
			}
		}
		wrong(c, check)
		for n := range 12 {
			check(slices.Repeat(list(n), len(c.Classes)))
		}
	}
}

func TestResultsShareNoMemory(t *testing.T) {
	first, second := results(three(), list(1, 2, 3)), results(three(), list(1, 2, 3))
	for i, l := range first {
		clear(l[:cap(l)])
		for k := range first {
			if k > i && !slices.Equal(first[k], second[k]) {
				t.Fatalf("the results %d and %d share memory", i, k)
			}
		}
	}
}

func TestWrongCabins(t *testing.T) {
	// Nothing is promised for such cabins, but there is no panic (R1).
	all := append(wrongNumbers(), 0, 5)
	call := func(c api.Cabin, sold []int) {
		results(c, sold)
		for rank := -1; rank <= len(sold); rank++ {
			for _, n := range all {
				Sell(c, sold, rank, n)
				Cancel(c, sold, rank, n)
			}
		}
	}
	call(api.Cabin{}, nil)
	call(in(10, 1), []int{})
	call(in(10, 1), list(0))
	for _, seats := range all {
		for _, protect := range all {
			for _, n := range []int{0, 5, 9999} {
				call(in(seats, protect, protect, seats, 0), list(n, 0, n))
				call(in(seats, seats, protect), list(n))
			}
		}
	}
	many := in(10, 0, make([]int, 1000)...)
	call(many, make([]int, 1000))
	call(many, slices.Repeat(list(9999), 1000))
}
