package marry

import (
	"math"
	"slices"
	"testing"

	"airline/api"
)

// list returns a list, to write it shortly.
func list[T any](l ...T) []T { return l }

// all returns a list of equal numbers.
func all(n, count int) []int { return slices.Repeat(list(n), count) }

// join returns one list of the elements of several.
func join[T any](l ...[]T) []T { return slices.Concat(l...) }

// changed returns a copy of a list, one of its elements changed.
func changed(l []int, i, n int) []int {
	l = slices.Clone(l)
	l[i] = n
	return l
}

// numbers returns a source of numbers from 0 to n - 1 that look like chance.
func numbers(seed uint64) func(n int) int {
	return func(n int) int {
		seed = seed*6364136223846793005 + 1442695040888963407
		return int(seed >> 33 % uint64(n))
	}
}

// each calls f with all lists of a number of these elements.
func each(elements []int, count int, f func(l []int)) {
	if count == 0 {
		f(nil)
		return
	}
	each(elements, count-1, func(l []int) {
		for _, n := range elements {
			f(append(slices.Clone(l), n))
		}
	})
}

// upTo calls f with all lists of up to a number of these elements.
func upTo(elements []int, most int, f func(l []int)) {
	for count := range most + 1 {
		each(elements, count, f)
	}
}

// around returns the indices of a list, and those around them.
func around(l []int) []int {
	at := list(math.MinInt, math.MinInt+1)
	for i := range len(l) + 5 {
		at = append(at, i-2)
	}
	return append(at, 1<<32, math.MaxInt-1, math.MaxInt)
}

// outside returns indices that a list does not have.
func outside(l []int) []int {
	return slices.DeleteFunc(around(l), func(at int) bool { return at >= 0 && at < len(l) })
}

// wrong returns lists that Check does not accept because of a marriage.
func wrong() [][]int {
	return [][]int{
		{5}, {0, 5}, {5, 0}, {0, 5, 0}, {5, 6}, {5, 5, 6}, {6, 5, 5}, {5, 5, 6, 0}, {5, 5, 6, 7, 7},
		{7, 0, 7}, {7, 8, 7}, {7, 7, 0, 7}, {7, 0, 7, 7}, {7, 7, 0, 7, 7}, {7, 7, 8, 8, 7, 7}, {7, 7, 0, 0, 0, 7, 7}, {7, 7, 0, 8, 8, 0, 7, 7},
		{7, 7, 8, 7, 7}, {7, 7, 7, 0, 7, 7, 7}, {7, 8, 7, 8}, {7, 7, 8, 8, 7, 7, 8, 8}, {1, 2, 3}, {0, 1, 0, 2}, {0, 0, 0, 1}, {1, 0, 0, 0},
		{math.MaxInt}, {math.MaxInt, 0, math.MaxInt}, {math.MaxInt, math.MaxInt - 1}, {1, math.MaxInt}, {0, 0, math.MaxInt}, {math.MaxInt, 0, 0},
		{1, 1 << 32, 1, 1 << 32}, {1, 1<<32 + 1}, {1<<16 + 1, 1}, {1, 257}, {1, 1, 2, 2, 3, 3, 1, 1}, {1, 1, 0, 2, 2, 0, 3}, {3, 3, 2, 2, 1},
	}
}

// negative returns lists that Check does not accept because of a negative number.
func negative() [][]int {
	var lists [][]int
	for _, n := range []int{-1, -2, -7, -1 << 31, -1 << 32, -math.MaxInt, math.MinInt} {
		lists = append(lists, list(n), list(n, n), list(n, 0), list(0, n), list(0, n, 0), list(n, 7, 7), list(7, 7, n), list(7, n, 7), list(7, 7, n, 8, 8))
	}
	// Beside a marriage that is wrong, too: at the beginning, in the middle and at the end.
	for _, l := range wrong() {
		for i := range len(l) + 1 {
			lists = append(lists, slices.Insert(slices.Clone(l), i, -1), slices.Insert(slices.Clone(l), i, math.MinInt))
		}
	}
	return lists
}

// right returns lists that Check accepts.
func right() [][]int {
	return [][]int{
		nil, {}, {0}, {0, 0}, {0, 0, 0}, {0, 0, 0, 0, 0, 0},
		{5, 5}, {5, 5, 5}, {1, 1, 1, 1, 1, 1}, {0, 5, 5}, {5, 5, 0}, {0, 5, 5, 0}, {0, 0, 5, 5, 5, 0, 0},
		{0, 7, 7, 2, 2}, {7, 7, 2, 2}, {2, 2, 7, 7}, {7, 7, 2, 2, 2}, {7, 7, 7, 2, 2}, {7, 7, 0, 2, 2}, {1, 1, 2, 2, 3, 3}, {3, 3, 2, 2, 1, 1}, {2, 2, 3, 3, 1, 1},
		{9, 9, 0, 4, 4}, {0, 9, 9, 0, 4, 4, 0}, {0, 0, 4, 4}, {3, 3, 0},
		{math.MaxInt, math.MaxInt}, {0, math.MaxInt, math.MaxInt, 0}, {0, 0, math.MaxInt, math.MaxInt}, {math.MaxInt, math.MaxInt, math.MaxInt - 1, math.MaxInt - 1}, {1, 1, math.MaxInt, math.MaxInt, 0, 0},
		{1 << 32, 1 << 32, 1, 1}, {1, 1, 1<<32 + 1, 1<<32 + 1, 1<<16 + 1, 1<<16 + 1}, {1 << 32, 1 << 32, 0, 1 << 31, 1 << 31}, {2, 2, 2, 2, 1, 1, 1, 0, 3, 3, 3},
	}
}

// mixed returns a list of any length that Check accepts.
func mixed(next func(n int) int) []int {
	var l []int
	used := map[int]bool{}
	for range next(20) {
		n := 1 + next(50)
		if next(10) == 0 {
			n = math.MaxInt - next(2)
		}
		if next(2) == 0 || used[n] {
			l = append(l, all(0, 1+next(3))...)
			continue
		}
		used[n] = true
		l = append(l, all(n, 2+next(4))...)
	}
	return l
}

// rightLists calls f with many lists that Check accepts.
func rightLists(f func(l []int)) {
	for _, l := range right() {
		f(l)
	}
	for _, elements := range [][]int{list(0, 1, 2, 3), list(0, 4, 3, math.MaxInt)} {
		upTo(elements, 7, func(l []int) {
			if check(l) == api.OK {
				f(l)
			}
		})
	}
	next := numbers(3)
	for range 300 {
		f(mixed(next))
	}
}

// The definitions of the chapter.

func check(l []int) api.Errno {
	if slices.ContainsFunc(l, func(n int) bool { return n < 0 }) {
		return api.ErrArg
	}
	for i, n := range l {
		count := 0
		for j, m := range l {
			if n == 0 || m != n {
				continue
			}
			count++
			if i < j && slices.ContainsFunc(l[i:j], func(between int) bool { return between != n }) {
				return api.ErrMarried
			}
		}
		if count == 1 {
			return api.ErrMarried
		}
	}
	return api.OK
}

// group returns the segments that are in a group with one, in a list that Check accepts.
func group(l []int, at int) []int {
	var g []int
	for i, n := range l {
		if i == at || n > 0 && n == l[at] {
			g = append(g, i)
		}
	}
	return g
}

func groups(l []int) ([][]int, api.Errno) {
	if e := check(l); e != api.OK {
		return nil, e
	}
	var lists [][]int
	for i := range l {
		if g := group(l, i); g[0] == i {
			lists = append(lists, g)
		}
	}
	return lists, api.OK
}

func with(l []int, at int) ([]int, api.Errno) {
	if e := check(l); e != api.OK {
		return nil, e
	}
	for i := range l {
		if i == at {
			return group(l, at), api.OK
		}
	}
	return nil, api.ErrArg
}

func married(l []int, from, to int) ([]int, api.Errno) {
	if e := check(l); e != api.OK {
		return nil, e
	}
	if !(0 <= from && from < to && to < len(l)) {
		return nil, api.ErrArg
	}
	var joined []int
	for i, n := range l {
		switch {
		case i < from || i > to:
			joined = append(joined, n)
		case n != 0:
			return nil, api.ErrMarried
		case slices.Max(l) < math.MaxInt:
			joined = append(joined, slices.Max(l)+1)
		}
	}
	if len(joined) < len(l) {
		return nil, api.ErrArg
	}
	return joined, api.OK
}

func parted(l []int, at int) ([]int, api.Errno) {
	g, e := with(l, at)
	if e != api.OK {
		return nil, e
	}
	var single []int
	for i, n := range l {
		if slices.Contains(g, i) {
			n = 0
		}
		single = append(single, n)
	}
	return single, api.OK
}

func normal(l []int) ([]int, api.Errno) {
	if e := check(l); e != api.OK {
		return nil, e
	}
	numbered := slices.Clone(l)
	var seen []int
	for i, n := range l {
		if n == 0 {
			continue
		}
		if !slices.Contains(seen, n) {
			seen = append(seen, n)
		}
		numbered[i] = 1 + slices.Index(seen, n)
	}
	return numbered, api.OK
}

// P17.1

// same reports whether two lists of groups have the same groups.
func same(a, b [][]int) bool { return slices.EqualFunc(a, b, slices.Equal[[]int]) }

// checkIs fails if Check does not return this.
func checkIs(t *testing.T, l []int, want api.Errno) {
	t.Helper()
	if e := Check(l); e != want {
		t.Errorf("Check(%v) = %d, not %d", l, e, want)
	}
}

// groupsAre fails if Groups does not return these groups.
func groupsAre(t *testing.T, l []int, want ...[]int) {
	t.Helper()
	if g, e := Groups(l); e != api.OK || !same(g, want) {
		t.Errorf("Groups(%v) = %v, %d, not %v", l, g, e, want)
	}
}

// withIs fails if With does not return this group.
func withIs(t *testing.T, l []int, at int, want ...int) {
	t.Helper()
	if g, e := With(l, at); e != api.OK || !slices.Equal(g, want) {
		t.Errorf("With(%v, %d) = %v, %d, not %v", l, at, g, e, want)
	}
}

// withFails fails if With does not return an error.
func withFails(t *testing.T, l []int, at int, want api.Errno) {
	t.Helper()
	if g, e := With(l, at); e != want || len(g) != 0 {
		t.Errorf("With(%v, %d) = %v, %d, not the error %d", l, at, g, e, want)
	}
}

// joinIs fails if Join does not return this list.
func joinIs(t *testing.T, l []int, from, to int, want ...int) {
	t.Helper()
	if x, e := Join(l, from, to); e != api.OK || !slices.Equal(x, want) {
		t.Errorf("Join(%v, %d, %d) = %v, %d, not %v", l, from, to, x, e, want)
	}
}

// joinFails fails if Join does not return an error.
func joinFails(t *testing.T, l []int, from, to int, want api.Errno) {
	t.Helper()
	if x, e := Join(l, from, to); e != want || len(x) != 0 {
		t.Errorf("Join(%v, %d, %d) = %v, %d, not the error %d", l, from, to, x, e, want)
	}
}

// partIs fails if Part does not return this list.
func partIs(t *testing.T, l []int, at int, want ...int) {
	t.Helper()
	if x, e := Part(l, at); e != api.OK || !slices.Equal(x, want) {
		t.Errorf("Part(%v, %d) = %v, %d, not %v", l, at, x, e, want)
	}
}

// partFails fails if Part does not return an error.
func partFails(t *testing.T, l []int, at int, want api.Errno) {
	t.Helper()
	if x, e := Part(l, at); e != want || len(x) != 0 {
		t.Errorf("Part(%v, %d) = %v, %d, not the error %d", l, at, x, e, want)
	}
}

// normalIs fails if Normal does not return this list.
func normalIs(t *testing.T, l []int, want ...int) {
	t.Helper()
	if x, e := Normal(l); e != api.OK || !slices.Equal(x, want) {
		t.Errorf("Normal(%v) = %v, %d, not %v", l, x, e, want)
	}
}

func TestExamples(t *testing.T) {
	checkIs(t, list(0, 7, 7, 2, 2), api.OK)
	checkIs(t, list(7, 0, 7), api.ErrMarried)
	checkIs(t, list(5), api.ErrMarried)
	groupsAre(t, list(0, 7, 7), list(0), list(1, 2))
	withIs(t, list(0, 7, 7), 2, 1, 2)
	joinIs(t, list(0, 0, 4, 4), 0, 1, 5, 5, 4, 4)
	partIs(t, list(3, 3, 0), 0, 0, 0, 0)
	normalIs(t, list(9, 9, 0, 4, 4), 1, 1, 0, 2, 2)
}

func TestCheck(t *testing.T) {
	for _, l := range right() {
		checkIs(t, l, api.OK)
	}
	for _, l := range wrong() {
		checkIs(t, l, api.ErrMarried)
	}
	for _, l := range negative() {
		checkIs(t, l, api.ErrArg)
	}
}

func TestCheckOfOneNumber(t *testing.T) {
	for _, n := range []int{1, 2, 9, 10, 255, 256, 1 << 16, 1<<31 - 1, 1 << 31, 1 << 32, math.MaxInt - 1, math.MaxInt} {
		// It occurs once, twice and three times.
		checkIs(t, list(n), api.ErrMarried)
		checkIs(t, list(n, n), api.OK)
		checkIs(t, list(n, n, n), api.OK)
		checkIs(t, list(n, n, 0, n), api.ErrMarried)
		checkIs(t, list(n, 0, n), api.ErrMarried)
		for _, m := range []int{n - 1, n + 1, n + 1<<8, n + 1<<16, n + 1<<32} {
			if m < 1 {
				continue
			}
			checkIs(t, list(n, m), api.ErrMarried)
			checkIs(t, list(n, n, m), api.ErrMarried)
			checkIs(t, list(n, n, m, m), api.OK)
			checkIs(t, list(n, n, m, m, n, n), api.ErrMarried)
			checkIs(t, list(n, m, m, n), api.ErrMarried)
		}
		for _, m := range []int{-n, -n - 1, n + math.MinInt} {
			checkIs(t, list(m, n), api.ErrArg)
			checkIs(t, list(n, m), api.ErrArg)
			checkIs(t, list(n, m, n), api.ErrArg)
			checkIs(t, list(n, n, m), api.ErrArg)
		}
	}
}

func TestGroups(t *testing.T) {
	groupsAre(t, nil)
	groupsAre(t, []int{})
	groupsAre(t, list(0), list(0))
	groupsAre(t, list(0, 0), list(0), list(1))
	groupsAre(t, list(0, 0, 0), list(0), list(1), list(2))
	groupsAre(t, list(5, 5), list(0, 1))
	groupsAre(t, list(5, 5, 5), list(0, 1, 2))
	groupsAre(t, list(5, 5, 0), list(0, 1), list(2))
	groupsAre(t, list(0, 5, 5, 0), list(0), list(1, 2), list(3))
	groupsAre(t, list(0, 0, 5, 5, 5, 0, 0), list(0), list(1), list(2, 3, 4), list(5), list(6))
	groupsAre(t, list(7, 7, 2, 2), list(0, 1), list(2, 3))
	groupsAre(t, list(7, 7, 7, 2, 2), list(0, 1, 2), list(3, 4))
	groupsAre(t, list(2, 2, 7, 7, 7), list(0, 1), list(2, 3, 4))
	groupsAre(t, list(7, 7, 0, 2, 2), list(0, 1), list(2), list(3, 4))
	groupsAre(t, list(3, 3, 1, 1, 2, 2), list(0, 1), list(2, 3), list(4, 5))
	groupsAre(t, list(math.MaxInt, math.MaxInt, 0, 1, 1), list(0, 1), list(2), list(3, 4))
	groupsAre(t, list(1, 1, 1<<32+1, 1<<32+1), list(0, 1), list(2, 3))
}

func TestErrorsOfCheckComeFirst(t *testing.T) {
	fails := func(l []int, want api.Errno) {
		if g, e := Groups(l); e != want || len(g) != 0 {
			t.Errorf("Groups(%v) = %v, %d, not the error %d", l, g, e, want)
		}
		if x, e := Normal(l); e != want || len(x) != 0 {
			t.Errorf("Normal(%v) = %v, %d, not the error %d", l, x, e, want)
		}
		for _, at := range around(l) {
			withFails(t, l, at, want)
			partFails(t, l, at, want)
			for _, to := range around(l) {
				joinFails(t, l, at, to, want)
			}
		}
	}
	for _, l := range wrong() {
		fails(l, api.ErrMarried)
	}
	for _, l := range negative() {
		fails(l, api.ErrArg)
	}
}

func TestWith(t *testing.T) {
	withIs(t, list(0), 0, 0)
	withIs(t, list(0, 0), 0, 0)
	withIs(t, list(0, 0), 1, 1)
	for at := range 3 {
		withIs(t, list(0, 0, 0), at, at)
		withIs(t, list(5, 5, 5), at, 0, 1, 2)
		withIs(t, list(math.MaxInt, math.MaxInt, math.MaxInt), at, 0, 1, 2)
		withIs(t, list(0, 5, 5, 5), at+1, 1, 2, 3)
	}
	// Several marriages side by side, whose numbers are not in order, and what is not married between them.
	l := list(0, 7, 7, 2, 2, 2, 0, 0, 3, 3, 0)
	withIs(t, l, 0, 0)
	withIs(t, l, 1, 1, 2)
	withIs(t, l, 2, 1, 2)
	withIs(t, l, 3, 3, 4, 5)
	withIs(t, l, 4, 3, 4, 5)
	withIs(t, l, 5, 3, 4, 5)
	withIs(t, l, 6, 6)
	withIs(t, l, 7, 7)
	withIs(t, l, 8, 8, 9)
	withIs(t, l, 9, 8, 9)
	withIs(t, l, 10, 10)
}

func TestPart(t *testing.T) {
	partIs(t, list(0), 0, 0)
	for at := range 3 {
		partIs(t, list(0, 0, 0), at, 0, 0, 0)
		partIs(t, list(5, 5, 5), at, 0, 0, 0)
		partIs(t, list(math.MaxInt, math.MaxInt, math.MaxInt), at, 0, 0, 0)
		partIs(t, list(0, 5, 5, 5, 0), at+1, 0, 0, 0, 0, 0)
	}
	// The other marriages remain as they are.
	l := list(0, 7, 7, 2, 2, 2, 0, 0, 3, 3, 0)
	for _, at := range []int{1, 2} {
		partIs(t, l, at, 0, 0, 0, 2, 2, 2, 0, 0, 3, 3, 0)
	}
	for _, at := range []int{3, 4, 5} {
		partIs(t, l, at, 0, 7, 7, 0, 0, 0, 0, 0, 3, 3, 0)
	}
	for _, at := range []int{8, 9} {
		partIs(t, l, at, 0, 7, 7, 2, 2, 2, 0, 0, 0, 0, 0)
	}
	// Nothing changes if the segment is not married.
	for _, at := range []int{0, 6, 7, 10} {
		partIs(t, l, at, l...)
	}
	partIs(t, list(7, 7, math.MaxInt, math.MaxInt), 0, 0, 0, math.MaxInt, math.MaxInt)
	partIs(t, list(7, 7, math.MaxInt, math.MaxInt), 3, 7, 7, 0, 0)
}

func TestIndexThatDoesNotExist(t *testing.T) {
	for _, l := range right() {
		for _, at := range outside(l) {
			withFails(t, l, at, api.ErrArg)
			partFails(t, l, at, api.ErrArg)
		}
		for _, at := range []int{math.MinInt, -1, len(l), math.MaxInt} {
			withFails(t, l, at, api.ErrArg)
			partFails(t, l, at, api.ErrArg)
		}
	}
}

func TestJoin(t *testing.T) {
	joinIs(t, list(0, 0), 0, 1, 1, 1)
	joinIs(t, list(0, 0, 0), 0, 1, 1, 1, 0)
	joinIs(t, list(0, 0, 0), 1, 2, 0, 1, 1)
	joinIs(t, list(0, 0, 0), 0, 2, 1, 1, 1)
	joinIs(t, list(0, 0, 0, 0, 0, 0), 0, 5, 1, 1, 1, 1, 1, 1)
	joinIs(t, list(0, 0, 0, 0, 0, 0), 2, 3, 0, 0, 1, 1, 0, 0)
	// Beside another marriage, and between two.
	joinIs(t, list(4, 4, 0, 0), 2, 3, 4, 4, 5, 5)
	joinIs(t, list(0, 0, 4, 4), 0, 1, 5, 5, 4, 4)
	joinIs(t, list(4, 4, 0, 0, 0, 2, 2), 2, 4, 4, 4, 5, 5, 5, 2, 2)
	joinIs(t, list(2, 2, 0, 0, 0, 4, 4), 3, 4, 2, 2, 0, 5, 5, 4, 4)
	joinIs(t, list(2, 2, 0, 0, 0, 4, 4), 2, 3, 2, 2, 5, 5, 0, 4, 4)
	joinIs(t, list(0, 0, 0, 4, 4, 0, 0), 0, 1, 5, 5, 0, 4, 4, 0, 0)
	// The greatest number is neither the first nor the last one, nor one of the smaller ones free.
	joinIs(t, list(3, 3, 9, 9, 5, 5, 0, 0), 6, 7, 3, 3, 9, 9, 5, 5, 10, 10)
	joinIs(t, list(0, 0, 1, 1, 3, 3, 2, 2), 0, 1, 4, 4, 1, 1, 3, 3, 2, 2)
	for _, n := range []int{1, 9, 99, 255, 1<<16 - 1, 1<<31 - 1, 1 << 31, 1<<32 - 1, math.MaxInt - 2, math.MaxInt - 1} {
		joinIs(t, list(n, n, 0, 0), 2, 3, n, n, n+1, n+1)
		joinIs(t, list(0, 0, 0, n, n), 0, 1, n+1, n+1, 0, n, n)
	}
	// One after the other, from the end on.
	joinIs(t, list(0, 0, 0, 0, 0, 0), 4, 5, 0, 0, 0, 0, 1, 1)
	joinIs(t, list(0, 0, 0, 0, 1, 1), 2, 3, 0, 0, 2, 2, 1, 1)
	joinIs(t, list(0, 0, 2, 2, 1, 1), 0, 1, 3, 3, 2, 2, 1, 1)
}

func TestJoinOfWrongIndices(t *testing.T) {
	for _, l := range right() {
		for _, from := range around(l) {
			for _, to := range around(l) {
				if from < 0 || to >= len(l) || from >= to {
					joinFails(t, l, from, to, api.ErrArg)
				}
			}
		}
	}
	l := list(0, 0, 0)
	joinFails(t, l, 1, 1, api.ErrArg)
	joinFails(t, l, 2, 1, api.ErrArg)
	joinFails(t, l, 0, 0, api.ErrArg)
	joinFails(t, l, -1, 1, api.ErrArg)
	joinFails(t, l, 0, 3, api.ErrArg)
	joinFails(t, l, math.MinInt, math.MaxInt, api.ErrArg)
	// Before ErrMarried.
	l = list(4, 4, 0, 4)[:3]
	joinFails(t, l, 0, 0, api.ErrArg)
	joinFails(t, l, 1, 0, api.ErrArg)
	joinFails(t, l, 2, 1, api.ErrArg)
	joinFails(t, l, -1, 1, api.ErrArg)
	joinFails(t, l, 0, 3, api.ErrArg)
	joinFails(t, l, 1, math.MaxInt, api.ErrArg)
	joinFails(t, l, math.MinInt, 1, api.ErrArg)
}

func TestJoinOfMarriedSegments(t *testing.T) {
	// At the beginning, in the middle and at the end of the segments to be joined.
	l := list(0, 0, 5, 5, 0, 0)
	joinFails(t, l, 3, 4, api.ErrMarried)
	joinFails(t, l, 3, 5, api.ErrMarried)
	joinFails(t, l, 2, 5, api.ErrMarried)
	joinFails(t, l, 1, 4, api.ErrMarried)
	joinFails(t, l, 0, 5, api.ErrMarried)
	joinFails(t, l, 1, 2, api.ErrMarried)
	joinFails(t, l, 0, 2, api.ErrMarried)
	joinFails(t, l, 0, 3, api.ErrMarried)
	// Those of one marriage, and of two.
	joinFails(t, l, 2, 3, api.ErrMarried)
	joinFails(t, list(5, 5), 0, 1, api.ErrMarried)
	joinFails(t, list(5, 5, 5), 0, 1, api.ErrMarried)
	joinFails(t, list(5, 5, 5), 1, 2, api.ErrMarried)
	joinFails(t, list(5, 5, 2, 2), 1, 2, api.ErrMarried)
	joinFails(t, list(5, 5, 2, 2), 0, 3, api.ErrMarried)
	joinFails(t, list(5, 5, 0, 2, 2), 1, 3, api.ErrMarried)
}

func TestJoinBesideTheGreatestInt(t *testing.T) {
	for _, l := range [][]int{
		{0, 0, math.MaxInt, math.MaxInt, 0, 0},
		{0, 0, math.MaxInt, math.MaxInt, 0, 0, 1, 1},
		{0, 0, 3, 3, 0, 0, math.MaxInt, math.MaxInt},
		{0, 0, 3, 3, 0, 0, math.MaxInt, math.MaxInt, 7, 7},
	} {
		joinFails(t, l, 0, 1, api.ErrArg)
		joinFails(t, l, 4, 5, api.ErrArg)
		// ErrMarried comes first.
		joinFails(t, l, 1, 2, api.ErrMarried)
		joinFails(t, l, 0, 5, api.ErrMarried)
		joinFails(t, l, 3, 4, api.ErrMarried)
		joinFails(t, l, 2, 3, api.ErrMarried)
		joinFails(t, l, 1, 1, api.ErrArg)
	}
	// The number below it is still followed by one.
	joinIs(t, list(0, 0, math.MaxInt-1, math.MaxInt-1), 0, 1, math.MaxInt, math.MaxInt, math.MaxInt-1, math.MaxInt-1)
	joinFails(t, list(math.MaxInt, math.MaxInt, math.MaxInt-1, math.MaxInt-1, 0, 0), 4, 5, api.ErrArg)
}

func TestNormal(t *testing.T) {
	// What is normal remains.
	for _, l := range [][]int{nil, {}, {0}, {0, 0, 0}, {1, 1}, {1, 1, 1}, {0, 1, 1, 0}, {1, 1, 2, 2}, {1, 1, 0, 2, 2, 2, 3, 3}, {0, 1, 1, 0, 2, 2, 0, 0, 3, 3, 0}} {
		normalIs(t, l, l...)
	}
	// Numbers that fall, that rise with gaps, and in any order.
	normalIs(t, list(3, 3, 2, 2, 1, 1), 1, 1, 2, 2, 3, 3)
	normalIs(t, list(9, 9, 5, 5, 5, 0, 2, 2), 1, 1, 2, 2, 2, 0, 3, 3)
	normalIs(t, list(2, 2, 1, 1), 1, 1, 2, 2)
	normalIs(t, list(2, 2), 1, 1)
	normalIs(t, list(2, 2, 3, 3), 1, 1, 2, 2)
	normalIs(t, list(1, 1, 3, 3), 1, 1, 2, 2)
	normalIs(t, list(0, 2, 2, 0, 3, 3, 0, 1, 1, 0), 0, 1, 1, 0, 2, 2, 0, 3, 3, 0)
	normalIs(t, list(math.MaxInt, math.MaxInt), 1, 1)
	normalIs(t, list(math.MaxInt, math.MaxInt, 0, 1, 1, math.MaxInt-1, math.MaxInt-1), 1, 1, 0, 2, 2, 3, 3)
	normalIs(t, list(1<<32, 1<<32, 1<<33, 1<<33, 1<<31, 1<<31), 1, 1, 2, 2, 3, 3)
}

// isAsDefined fails if a function does not return what is described for a list and for all indices around it, and counts the errors.
func isAsDefined(t *testing.T, l []int, count map[api.Errno]int) {
	t.Helper()
	given := slices.Clone(l)
	checkIs(t, l, check(l))
	g, e := Groups(l)
	if want, x := groups(l); e != x || !same(g, want) {
		t.Fatalf("Groups(%v) = %v, %d, not %v, %d", l, g, e, want, x)
	}
	is := func(name string, got []int, e api.Errno, want []int, x api.Errno, arguments ...int) {
		if e != x || !slices.Equal(got, want) {
			t.Fatalf("%s of %v, %v = %v, %d, not %v, %d", name, l, arguments, got, e, want, x)
		}
		count[e]++
	}
	got, e := Normal(l)
	want, x := normal(l)
	is("Normal", got, e, want, x)
	for _, at := range around(l) {
		got, e := With(l, at)
		want, x := with(l, at)
		is("With", got, e, want, x, at)
		got, e = Part(l, at)
		want, x = parted(l, at)
		is("Part", got, e, want, x, at)
		for _, to := range around(l) {
			got, e := Join(l, at, to)
			want, x := married(l, at, to)
			is("Join", got, e, want, x, at, to)
		}
	}
	if !slices.Equal(l, given) {
		t.Fatalf("%v becomes %v", given, l)
	}
}

// eachErrorOccurs fails if there was an error only a few times, or never.
func eachErrorOccurs(t *testing.T, count map[api.Errno]int) {
	t.Helper()
	for _, e := range []api.Errno{api.OK, api.ErrArg, api.ErrMarried} {
		if count[e] < 1000 {
			t.Errorf("the error %d occurs %d times", e, count[e])
		}
	}
}

func TestAllIsAsDefined(t *testing.T) {
	for _, elements := range [][]int{list(-1, 0, 1, 2), list(0, 3, 2, 1), list(math.MinInt, 0, 5, math.MaxInt), list(0, math.MaxInt-1, math.MaxInt)} {
		count := map[api.Errno]int{}
		upTo(elements, 6, func(l []int) { isAsDefined(t, l, count) })
		eachErrorOccurs(t, count)
	}
}

func TestAllOfRightListsIsAsDefined(t *testing.T) {
	count := map[api.Errno]int{}
	rightLists(func(l []int) { isAsDefined(t, l, count) })
	eachErrorOccurs(t, count)
}

func TestAllOfMixedListsIsAsDefined(t *testing.T) {
	next := numbers(1)
	count := map[api.Errno]int{}
	for range 300 {
		l := mixed(next)
		if len(l) == 0 {
			continue
		}
		// One number more, less or another one changes what is right.
		i := next(len(l))
		isAsDefined(t, slices.Delete(slices.Clone(l), i, i+1), count)
		isAsDefined(t, slices.Insert(slices.Clone(l), i, l[next(len(l))]), count)
		isAsDefined(t, changed(l, i, l[next(len(l))]), count)
		isAsDefined(t, changed(l, i, next(3)-1), count)
	}
	eachErrorOccurs(t, count)
}

// long returns a list of many marriages of two segments, whose numbers fall.
func long(count int) []int {
	var l []int
	for n := count; n > 0; n-- {
		l = append(l, n, n)
	}
	return l
}

func TestLongLists(t *testing.T) {
	const count = 50000
	l := long(count)
	checkIs(t, l, api.OK)
	checkIs(t, join(l, list(1)), api.OK)
	checkIs(t, join(l, list(2)), api.ErrMarried)
	checkIs(t, join(l, list(count, count)), api.ErrMarried)
	checkIs(t, join(l, list(count+1)), api.ErrMarried)
	checkIs(t, join(l, list(-1)), api.ErrArg)
	checkIs(t, join(list(7, 0, 7), l, list(-1)), api.ErrArg)
	checkIs(t, all(7, 2*count), api.OK)
	checkIs(t, join(all(7, count), list(0), all(7, count)), api.ErrMarried)
	if g, e := Groups(l); e != api.OK || len(g) != count || !slices.Equal(g[count-1], list(2*count-2, 2*count-1)) {
		t.Errorf("Groups returns %d groups, %d", len(g), e)
	}
	if g, e := Groups(all(0, 2*count)); e != api.OK || len(g) != 2*count || !slices.Equal(g[2*count-1], list(2*count-1)) {
		t.Errorf("Groups returns %d groups, %d", len(g), e)
	}
	if g, e := With(all(7, 2*count), 5); e != api.OK || len(g) != 2*count || g[2*count-1] != 2*count-1 {
		t.Errorf("With returns %d segments, %d", len(g), e)
	}
	withIs(t, l, 2*count-1, 2*count-2, 2*count-1)
	withFails(t, l, 2*count, api.ErrArg)
	joinFails(t, join(list(0), l, list(0)), 0, 2*count+1, api.ErrMarried)
	for _, c := range []struct {
		name        string
		call        func() ([]int, api.Errno)
		first, last int
	}{
		{"Join", func() ([]int, api.Errno) { return Join(join(l, list(0, 0)), 2*count, 2*count+1) }, count, count + 1},
		{"Join of all", func() ([]int, api.Errno) { return Join(all(0, 2*count), 0, 2*count-1) }, 1, 1},
		{"Part", func() ([]int, api.Errno) { return Part(l, 2*count-1) }, count, 0},
		{"Part of all", func() ([]int, api.Errno) { return Part(all(7, 2*count), 5) }, 0, 0},
		{"Normal", func() ([]int, api.Errno) { return Normal(l) }, 1, count},
	} {
		if x, e := c.call(); e != api.OK || len(x) < 2*count || x[0] != c.first || x[len(x)-1] != c.last {
			t.Errorf("%s returns %d numbers, %d", c.name, len(x), e)
		}
	}
}

// P17.2

func TestEveryIndexIsInOneGroup(t *testing.T) {
	rightLists(func(l []int) {
		g, e := Groups(l)
		if e != api.OK {
			t.Fatalf("Groups(%v) returns %d", l, e)
		}
		var one []int
		for _, indices := range g {
			if len(indices) == 0 {
				t.Fatalf("Groups(%v) = %v has an empty group", l, g)
			}
			one = append(one, indices...)
			for _, at := range indices {
				withIs(t, l, at, indices...)
			}
		}
		if len(one) != len(l) {
			t.Fatalf("Groups(%v) = %v", l, g)
		}
		for i, at := range one {
			if i != at {
				t.Fatalf("Groups(%v) = %v is not in order", l, g)
			}
		}
	})
}

func TestGroupsAreMarriages(t *testing.T) {
	rightLists(func(l []int) {
		g, _ := Groups(l)
		of := map[int]int{} // the group of an index
		for i, indices := range g {
			for _, at := range indices {
				of[at] = i
			}
		}
		for i, n := range l {
			for j, m := range l {
				if together := i == j || n > 0 && n == m; together != (of[i] == of[j]) {
					t.Fatalf("Groups(%v) = %v: %d and %d", l, g, i, j)
				}
			}
		}
	})
}

func TestResultsAreAccepted(t *testing.T) {
	calls := 0
	accepted := func(l []int, e api.Errno) {
		if e != api.OK {
			return
		}
		calls++
		if Check(l) != api.OK || check(l) != api.OK {
			t.Fatalf("Check(%v) = %d", l, Check(l))
		}
	}
	rightLists(func(l []int) {
		accepted(Normal(l))
		for at := range l {
			accepted(Part(l, at))
			for to := range l {
				accepted(Join(l, at, to))
			}
		}
	})
	if calls < 10000 {
		t.Errorf("there are %d lists", calls)
	}
}

// Whatever is joined, parted and numbered again, one after the other.
func TestMixedCallsAreAccepted(t *testing.T) {
	next := numbers(2)
	joined := 0
	for range 200 {
		l := make([]int, 1+next(12))
		for range 50 {
			var x []int
			e := api.OK
			switch next(5) {
			case 0:
				x, e = Normal(l)
			case 1:
				x, e = Part(l, next(len(l)))
			default:
				x, e = Join(l, next(len(l)), next(len(l)))
			}
			if e != api.OK {
				continue
			}
			if slices.Max(x) > slices.Max(l) {
				joined++
			}
			if l = x; Check(l) != api.OK || check(l) != api.OK {
				t.Fatalf("Check(%v) = %d", l, Check(l))
			}
		}
	}
	if joined < 500 {
		t.Errorf("segments are joined %d times", joined)
	}
}

// P17.3

func TestPartReversesJoin(t *testing.T) {
	joined := 0
	rightLists(func(l []int) {
		for from := range l {
			for to := range l {
				x, e := Join(l, from, to)
				if e != api.OK {
					continue
				}
				joined++
				for at := from; at <= to; at++ {
					partIs(t, x, at, l...)
				}
			}
		}
	})
	if joined < 1000 {
		t.Errorf("segments are joined %d times", joined)
	}
}

// Part and then Join gives the groups that were there, and another number where that was not the next one.
func TestJoinAfterPart(t *testing.T) {
	rightLists(func(l []int) {
		g, _ := Groups(l)
		for _, indices := range g {
			from, to := indices[0], indices[len(indices)-1]
			x, e := Part(l, from)
			if e != api.OK {
				t.Fatalf("Part(%v, %d) returns %d", l, from, e)
			}
			if from == to || slices.Max(x) == math.MaxInt {
				joinFails(t, x, from, to, api.ErrArg)
				continue
			}
			again, _ := Join(x, from, to)
			groupsAre(t, again, g...)
			if again[from] != slices.Max(x)+1 {
				t.Fatalf("Join(%v, %d, %d) = %v", x, from, to, again)
			}
			if l[from] == slices.Max(x)+1 && !slices.Equal(again, l) {
				t.Fatalf("Join(%v, %d, %d) = %v, not %v", x, from, to, again, l)
			}
		}
	})
	x, _ := Part(list(4, 4, 9, 9), 2)
	joinIs(t, x, 2, 3, 4, 4, 5, 5)
	x, _ = Part(list(9, 9, 4, 4), 2)
	joinIs(t, x, 2, 3, 9, 9, 10, 10)
	x, _ = Part(list(4, 4, 5, 5), 3)
	joinIs(t, x, 2, 3, 4, 4, 5, 5)
}

func TestNormalKeepsTheGroups(t *testing.T) {
	rightLists(func(l []int) {
		g, _ := Groups(l)
		x, e := Normal(l)
		if e != api.OK {
			t.Fatalf("Normal(%v) returns %d", l, e)
		}
		groupsAre(t, x, g...)
		normalIs(t, x, x...)
		for i, n := range l {
			if (n == 0) != (x[i] == 0) {
				t.Fatalf("Normal(%v) = %v", l, x)
			}
		}
	})
}

// Rules R4 and R6.

// call is a call for a list, which returns a list.
type call struct {
	name string
	on   func(l []int) []int
}

// calls returns calls of all functions. Together they have a result, an error of each kind, and indices of all kinds.
func calls() []call {
	at := []int{math.MinInt, -1, 0, 1, 2, 3, 5, 6, 7, math.MaxInt}
	l := []call{
		{"Check", func(l []int) []int { return list(int(Check(l))) }},
		{"Groups", func(l []int) []int {
			g, e := Groups(l)
			return append(slices.Concat(g...), int(e))
		}},
		{"Normal", func(l []int) []int {
			x, e := Normal(l)
			return append(x, int(e))
		}},
	}
	for _, i := range at {
		l = append(l, call{"With", func(l []int) []int {
			x, e := With(l, i)
			return append(x, int(e))
		}}, call{"Part", func(l []int) []int {
			x, e := Part(l, i)
			return append(x, int(e))
		}})
		for _, j := range at {
			l = append(l, call{"Join", func(l []int) []int {
				x, e := Join(l, i, j)
				return append(x, int(e))
			}})
		}
	}
	return l
}

func TestArgumentsAreNotModified(t *testing.T) {
	for _, l := range slices.Concat(right(), wrong(), negative()) {
		for _, c := range calls() {
			// What is behind the list belongs to the caller, too.
			const behind = 88
			given := join(l, all(behind, 5))
			before := slices.Clone(given)
			first := c.on(given[:len(l)])
			if !slices.Equal(given, before) {
				t.Fatalf("%s changes %v to %v", c.name, before, given)
			}
			if again := c.on(given[:len(l):len(l)]); !slices.Equal(first, again) {
				t.Fatalf("%s of %v returns %v, and then %v", c.name, l, first, again)
			}
		}
	}
}

func TestResultsAreNotShared(t *testing.T) {
	for _, l := range right() {
		for _, f := range []func(l []int) ([]int, api.Errno){
			Normal,
			func(l []int) ([]int, api.Errno) { return Part(l, 0) },
			func(l []int) ([]int, api.Errno) { return Part(l, len(l)-1) },
			func(l []int) ([]int, api.Errno) { return Join(l, 0, 1) },
			func(l []int) ([]int, api.Errno) { return With(l, len(l)-1) },
		} {
			given := slices.Clone(l)
			x, _ := f(given)
			want, _ := f(given)
			want = slices.Clone(want)
			for i := range given {
				given[i] = -9
			}
			if !slices.Equal(x, want) {
				t.Errorf("%v becomes %v with the list %v", want, x, l)
			}
			for i := range x {
				x[i] = -8
			}
			if !slices.Equal(given, all(-9, len(l))) {
				t.Errorf("the list %v becomes %v with a result", l, given)
			}
		}
	}
}

func TestGroupsAreNotShared(t *testing.T) {
	for _, l := range right() {
		g, _ := Groups(l)
		want, _ := groups(l)
		for i := range g {
			// Neither the elements of another group nor what is behind this one.
			for j := range g[i] {
				g[i][j] = -8
			}
			_ = append(g[i], -7, -7, -7)
			if !same(g[i+1:], want[i+1:]) {
				t.Fatalf("group %d of %v changes others: %v", i, l, g)
			}
		}
		groupsAre(t, l, want...)
	}
}

func TestNilAndEmptyListsAreEquivalent(t *testing.T) {
	for _, c := range calls() {
		if a, b := c.on(nil), c.on([]int{}); !slices.Equal(a, b) {
			t.Errorf("%s of a nil list returns %v, and of an empty one %v", c.name, a, b)
		}
	}
	checkIs(t, nil, api.OK)
	groupsAre(t, nil)
	normalIs(t, nil)
	withFails(t, nil, 0, api.ErrArg)
	partFails(t, nil, 0, api.ErrArg)
	joinFails(t, nil, 0, 1, api.ErrArg)
}
