package period

import (
	"math"
	"slices"
	"strconv"
	"strings"
	"testing"
	"time"

	"airline/api"
	"airline/calendar"
)

const lastDay = api.MaxDay - 1

// p returns a period, to write it shortly.
func p(from, to, days int) api.Period { return api.Period{From: from, To: to, Days: days} }

// outside are integers that are no days, and most of them no Days. Some are small in 32 bits.
func outside() []int {
	return []int{
		-1, -2, -7, -127, -1440, -api.MaxDay, api.MaxDay, api.MaxDay + 1, api.MaxTime, 1<<31 - 1, 1 << 31, 1 << 32, 1<<32 + 1, 1<<32 + 9497, 1 << 62,
		-1 << 31, -1 << 32, -1<<32 + 9497, math.MaxInt - 1, math.MaxInt, math.MinInt, math.MinInt + 1,
	}
}

// invalid returns periods that are not valid, each with the error of Check.
func invalid() map[api.Period]api.Errno {
	m := map[api.Period]api.Errno{
		p(-1, 4, 127): api.ErrDay, p(-1, -1, 127): api.ErrDay, p(0, -1, 127): api.ErrDay, p(5, 4, 127): api.ErrDay, p(9503, 9497, 127): api.ErrDay,
		p(lastDay, api.MaxDay, 127): api.ErrDay, p(api.MaxDay, api.MaxDay, 127): api.ErrDay, p(api.MaxDay, lastDay, 127): api.ErrDay,
		// The differences of these are small, or wrap around.
		p(math.MinInt, math.MaxInt, 127): api.ErrDay, p(math.MaxInt, math.MinInt, 127): api.ErrDay, p(math.MinInt, math.MinInt, 127): api.ErrDay,
		p(math.MaxInt, math.MaxInt, 127): api.ErrDay, p(math.MinInt, math.MinInt+9, 127): api.ErrDay, p(math.MaxInt-9, math.MaxInt, 127): api.ErrDay,
		p(0, 800, 127): api.ErrSize, p(0, 801, 127): api.ErrSize, p(1, 801, 127): api.ErrSize, p(0, lastDay, 127): api.ErrSize,
		p(lastDay-800, lastDay, 127): api.ErrSize, p(9497, 9497+800, 127): api.ErrSize,
		p(0, 9, 0): api.ErrArg, p(9497, 9503, 0): api.ErrArg, p(9497, 9503, 128): api.ErrArg, p(9497, 9503, 129): api.ErrArg, p(9497, 9503, 255): api.ErrArg,
		p(0, 799, 128): api.ErrArg, p(lastDay, lastDay, 0): api.ErrArg, {}: api.ErrArg,
		// The first of several errors.
		p(-1, 800, 0): api.ErrDay, p(5, 4, 0): api.ErrDay, p(0, api.MaxDay, 127): api.ErrDay, p(0, api.MaxDay, 128): api.ErrDay, p(-900, 0, -1): api.ErrDay,
		p(0, 800, 0): api.ErrSize, p(0, 800, 128): api.ErrSize, p(9000, 9900, math.MinInt): api.ErrSize,
	}
	for _, n := range outside() {
		m[p(n, 9503, 96)] = api.ErrDay
		m[p(9497, n, 96)] = api.ErrDay
		m[p(9497, 9503, n)] = api.ErrArg
		m[p(n, n, n)] = api.ErrDay
	}
	return m
}

// valid returns valid periods: short and long ones, at the first and the last day, without days, that touch, overlap and contain each other.
func valid() []api.Period {
	l := []api.Period{
		p(0, 0, 127), p(0, 0, 32), p(0, 0, 95), p(0, 1, 64), p(0, 13, 1), p(0, 799, 127), p(0, 799, 1), p(1, 800, 64), p(0, 798, 85),
		p(lastDay, lastDay, 127), p(lastDay, lastDay, 8), p(lastDay, lastDay, 119), p(lastDay-13, lastDay, 42), p(lastDay-799, lastDay, 127), p(lastDay-799, lastDay, 3),
		p(9497, 9503, 96), p(9497, 9498, 96), p(9497, 9510, 127), p(9500, 9503, 64), p(9490, 9500, 65), p(9497, 9497, 8), p(9497, 9497, 119),
		p(9000, 9496, 127), p(9497, 9600, 127), p(9511, 9512, 127), p(9496, 9496, 127), p(9100, 9899, 127), p(9100, 9899, 20), p(20000, 20006, 127), p(20000, 20006, 1),
	}
	for days := range weekdays {
		l = append(l, p(9498, 9512, 1<<days), p(9505, 9505, 1<<days), p(9501, 9520, 127-1<<days))
	}
	return l
}

// all returns the valid periods, and those that are not.
func all() []api.Period {
	l := valid()
	for q := range invalid() {
		l = append(l, q)
	}
	return l
}

// short calls f with all valid periods of a few days, for some Days.
func short(f func(q api.Period)) {
	for from := 9497; from < 9507; from++ {
		for to := from; to < 9507; to++ {
			for _, days := range []int{1, 9, 64, 85, 96, 127} {
				f(p(from, to, days))
			}
		}
	}
}

// set returns the days of a period by the definition, with the weekdays of package time.
func set(q api.Period) []int {
	l := []int{}
	if !right(q) {
		return l
	}
	for day := q.From; day <= q.To; day++ {
		if q.Days&bitOf(day) != 0 {
			l = append(l, day)
		}
	}
	return l
}

// right reports whether a period is valid, by the definition.
func right(q api.Period) bool {
	return 0 <= q.From && q.From <= q.To && q.To < api.MaxDay && q.To-q.From < 800 && 1 <= q.Days && q.Days <= 127
}

// bitOf returns the bit of the weekday of a day.
func bitOf(day int) int {
	return 1 << ((int(time.Date(2000, 1, 1+day, 0, 0, 0, 0, time.UTC).Weekday()) + 6) % 7)
}

// canonical returns the canonical period of a set: it is not ok if there are no days.
func canonical(days []int) (api.Period, bool) {
	if len(days) == 0 {
		return api.Period{}, false
	}
	c := p(days[0], days[len(days)-1], 0)
	for _, day := range days {
		c.Days |= bitOf(day)
	}
	return c, true
}

// keep returns the days for which f is true.
func keep(days []int, f func(day int) bool) []int {
	l := []int{}
	for _, day := range days {
		if f(day) {
			l = append(l, day)
		}
	}
	return l
}

// contains reports whether an ascending list of days contains a day.
func contains(days []int, day int) bool {
	_, found := slices.BinarySearch(days, day)
	return found
}

// remainders returns what Without should return, by the definition.
func remainders(a, b api.Period) []api.Period {
	inA, inB := set(a), set(b)
	parts := [][]int{inA}
	if right(b) {
		rest := keep(inA, func(day int) bool { return !contains(inB, day) })
		parts = [][]int{
			keep(rest, func(day int) bool { return day < b.From }),
			keep(rest, func(day int) bool { return b.From <= day && day <= b.To }),
			keep(rest, func(day int) bool { return day > b.To }),
		}
	}
	l := []api.Period{}
	for _, days := range parts {
		if c, ok := canonical(days); ok {
			l = append(l, c)
		}
	}
	return l
}

// pairs calls f with pairs of periods: all those of a few days, and all others.
func pairs(f func(a, b api.Period)) {
	short(func(a api.Period) {
		short(func(b api.Period) { f(a, b) })
	})
	l := all()
	for _, a := range l {
		for _, b := range l {
			f(a, b)
		}
	}
}

// P4.1

func TestCheck(t *testing.T) {
	for _, q := range valid() {
		if e := Check(q); e != api.OK {
			t.Errorf("Check(%v) = %d", q, e)
		}
	}
	for q, want := range invalid() {
		if e := Check(q); e != want {
			t.Errorf("Check(%v) = %d, not %d", q, e, want)
		}
	}
}

func TestCheckOfEveryDay(t *testing.T) {
	for day := -2000; day < api.MaxDay+2000; day++ {
		want := api.ErrDay
		if 0 <= day && day < api.MaxDay {
			want = api.OK
		}
		if e := Check(p(day, day, 127)); e != want {
			t.Errorf("Check of the day %d = %d", day, e)
		}
		if 0 <= day && day < api.MaxDay-1 {
			if e := Check(p(day+1, day, 127)); e != api.ErrDay {
				t.Errorf("Check of the day %d and the one before = %d", day+1, e)
			}
		}
	}
}

func TestCheckOfEverySpan(t *testing.T) {
	for span := range 3000 {
		want := api.OK
		if span > 799 {
			want = api.ErrSize
		}
		for _, from := range []int{0, 1, 9497, lastDay - 3000, lastDay - span} {
			if e := Check(p(from, from+span, 1)); e != want {
				t.Errorf("Check of %d days from %d on = %d", span+1, from, e)
			}
		}
	}
}

func TestCheckOfEveryDays(t *testing.T) {
	for days := -1000; days < 1000; days++ {
		want := api.ErrArg
		if 1 <= days && days <= 127 {
			want = api.OK
		}
		// It does not matter whether the weekdays occur.
		for _, to := range []int{9497, 9503, 10296} {
			if e := Check(p(9497, to, days)); e != want {
				t.Errorf("Check of the Days %d = %d", days, e)
			}
		}
	}
}

func TestDays(t *testing.T) {
	for _, c := range []struct {
		q    api.Period
		want []int
	}{
		{p(9497, 9503, 96), []int{9499, 9500}}, {p(9497, 9498, 96), nil}, {p(9497, 9497, 8), []int{9497}}, {p(9497, 9497, 119), nil},
		{p(9497, 9510, 1), []int{9501, 9508}}, {p(9497, 9510, 64), []int{9500, 9507}}, {p(9501, 9508, 1), []int{9501, 9508}}, {p(9502, 9507, 1), nil},
		{p(9497, 9500, 127), []int{9497, 9498, 9499, 9500}}, {p(0, 0, 32), []int{0}}, {p(0, 0, 95), nil}, {p(0, 2, 127), []int{0, 1, 2}}, {p(0, 2, 65), []int{1, 2}},
		{p(lastDay, lastDay, 8), []int{lastDay}}, {p(lastDay, lastDay, 119), nil}, {p(lastDay-1, lastDay, 127), []int{lastDay - 1, lastDay}},
		{p(0, 800, 127), nil}, {p(5, 4, 127), nil}, {p(-1, 4, 127), nil}, {p(lastDay, api.MaxDay, 127), nil}, {p(9497, 9503, 128), nil}, {p(9497, 9503, 0), nil}, {},
	} {
		if l := Days(c.q); !slices.Equal(l, c.want) {
			t.Errorf("Days(%v) = %v", c.q, l)
		}
		if n := Count(c.q); n != len(c.want) {
			t.Errorf("Count(%v) = %d", c.q, n)
		}
		for _, day := range []int{0, 1, 2, 9497, 9498, 9499, 9500, 9501, 9508, lastDay - 1, lastDay} {
			if has := Has(c.q, day); has != contains(c.want, day) {
				t.Errorf("Has(%v, %d) = %v", c.q, day, has)
			}
		}
	}
}

// checkSet checks Days, Count and Has of a period, for the days around it and others.
func checkSet(t *testing.T, q api.Period) {
	want := set(q)
	if l := Days(q); !slices.Equal(l, want) {
		t.Errorf("Days(%v) = %v, not %v", q, l, want)
	}
	if n := Count(q); n != len(want) {
		t.Errorf("Count(%v) = %d, not %d", q, n, len(want))
	}
	has := func(day int) {
		if h := Has(q, day); h != contains(want, day) {
			t.Errorf("Has(%v, %d) = %v", q, day, h)
		}
	}
	for _, day := range outside() {
		has(day)
	}
	for i := range 820 {
		has(q.From - 10 + i)
		has(q.To - i)
		has(i)
		has(lastDay - i)
		has(9490 + i)
	}
}

func TestSets(t *testing.T) {
	for _, q := range all() {
		checkSet(t, q)
	}
	for days := 1; days <= 127; days++ {
		checkSet(t, p(0, 6, days))
		checkSet(t, p(9497, 9510, days))
		checkSet(t, p(9497, 10296, days))
		checkSet(t, p(lastDay-6, lastDay, days))
	}
}

func TestCountOfTheLongest(t *testing.T) {
	if n := Count(p(0, 799, 127)); n != 800 {
		t.Errorf("%d days", n)
	}
	if n := Count(p(lastDay-799, lastDay, 127)); n != 800 {
		t.Errorf("%d days", n)
	}
}

func TestDaysAreNewMemory(t *testing.T) {
	q := p(9497, 9503, 127)
	l := Days(q)
	l[0] = 1
	if again := Days(q); again[0] != 9497 {
		t.Errorf("Days(%v) = %v", q, again)
	}
}

func TestDaysAreTraversedUntilTheEnd(t *testing.T) {
	var l []int
	for day := range each(p(9497, 9510, 96)) {
		l = append(l, day)
		if len(l) == 2 {
			break
		}
	}
	if !slices.Equal(l, []int{9499, 9500}) {
		t.Errorf("the days are %v", l)
	}
}

// P4.2

func TestNormal(t *testing.T) {
	for _, c := range []struct {
		q, want api.Period
		ok      bool
	}{
		{p(9497, 9503, 96), p(9499, 9500, 96), true}, {p(9497, 9503, 127), p(9497, 9503, 127), true}, {p(9497, 9498, 127), p(9497, 9498, 24), true},
		{p(9497, 9510, 1), p(9501, 9508, 1), true}, {p(9497, 9507, 1), p(9501, 9501, 1), true}, {p(9499, 9499, 96), p(9499, 9499, 32), true},
		// The Sunday is inside, the Saturday is not.
		{p(9500, 9505, 96), p(9500, 9500, 64), true}, {p(9500, 9506, 96), p(9500, 9506, 96), true},
		{p(0, 799, 127), p(0, 799, 127), true}, {p(0, 799, 1), p(2, 793, 1), true}, {p(0, 0, 127), p(0, 0, 32), true}, {p(lastDay, lastDay, 127), p(lastDay, lastDay, 8), true},
		{p(9497, 9498, 96), api.Period{}, false}, {p(0, 0, 95), api.Period{}, false}, {p(lastDay, lastDay, 119), api.Period{}, false}, {api.Period{}, api.Period{}, false},
		{p(0, 800, 127), api.Period{}, false}, {p(9503, 9497, 127), api.Period{}, false}, {p(9497, 9503, 128), api.Period{}, false}, {p(9497, 9503, 224), api.Period{}, false},
	} {
		if n, ok := Normal(c.q); n != c.want || ok != c.ok {
			t.Errorf("Normal(%v) = %v, %v", c.q, n, ok)
		}
	}
}

func TestNormalIsCanonical(t *testing.T) {
	check := func(q api.Period) {
		want, wantOk := canonical(set(q))
		n, ok := Normal(q)
		if n != want || ok != wantOk {
			t.Errorf("Normal(%v) = %v, %v, not %v", q, n, ok, want)
		}
		if again, okAgain := Normal(n); ok && (again != n || !okAgain || Check(n) != api.OK) {
			t.Errorf("Normal(%v) = %v, %v", n, again, okAgain)
		}
	}
	for _, q := range all() {
		check(q)
	}
	for from := 9497; from < 9515; from++ {
		for to := from; to < 9515; to++ {
			for days := 1; days <= 127; days++ {
				check(p(from, to, days))
			}
		}
	}
}

func TestMeet(t *testing.T) {
	none := api.Period{}
	for _, c := range []struct{ a, b, want api.Period }{
		{p(9497, 9510, 127), p(9490, 9500, 65), p(9500, 9500, 64)}, {p(9497, 9510, 127), p(9490, 9520, 127), p(9497, 9510, 127)}, {p(9497, 9510, 96), p(9497, 9510, 31), none},
		{p(9497, 9503, 96), p(9497, 9510, 72), p(9500, 9500, 64)}, {p(9490, 9500, 127), p(9500, 9510, 127), p(9500, 9500, 64)},
		// These touch, or are apart.
		{p(9490, 9499, 127), p(9500, 9510, 127), none}, {p(0, 9, 127), p(lastDay, lastDay, 127), none}, {p(0, 799, 127), p(799, 1500, 127), p(799, 799, bitOf(799))},
		{p(0, 799, 127), p(0, 799, 127), p(0, 799, 127)}, {p(lastDay-799, lastDay, 127), p(lastDay, lastDay, 127), p(lastDay, lastDay, 8)},
		// The second one is not valid, or empty.
		{p(9497, 9510, 127), none, none}, {p(9497, 9510, 127), p(9490, 10400, 127), none}, {p(9497, 9510, 127), p(9497, 9503, 128), none},
		{p(9497, 9510, 127), p(9497, 9503, 255), none}, {p(0, 9, 127), p(-1, 9, 127), none}, {p(lastDay, lastDay, 127), p(lastDay, api.MaxDay, 127), none},
		{p(9497, 9510, 127), p(9497, 9498, 96), none}, {p(9497, 9510, 127), p(math.MinInt, math.MaxInt, 127), none},
	} {
		if m, ok := Meet(c.a, c.b); m != c.want || ok != (c.want != none) {
			t.Errorf("Meet(%v, %v) = %v, %v", c.a, c.b, m, ok)
		}
		if m, ok := Meet(c.b, c.a); m != c.want || ok != (c.want != none) {
			t.Errorf("Meet(%v, %v) = %v, %v", c.b, c.a, m, ok)
		}
	}
}

func TestWithout(t *testing.T) {
	for _, c := range []struct {
		a, b api.Period
		want []api.Period
	}{
		{p(9497, 9510, 127), p(9500, 9503, 64), []api.Period{p(9497, 9499, 56), p(9501, 9503, 7), p(9504, 9510, 127)}},
		{p(9497, 9510, 127), p(9500, 9503, 127), []api.Period{p(9497, 9499, 56), p(9504, 9510, 127)}},
		{p(9497, 9510, 127), p(9490, 9503, 127), []api.Period{p(9504, 9510, 127)}}, {p(9497, 9510, 127), p(9504, 9520, 127), []api.Period{p(9497, 9503, 127)}},
		{p(9497, 9510, 127), p(9497, 9510, 127), nil}, {p(9497, 9510, 127), p(9490, 9520, 127), nil}, {p(9497, 9503, 96), p(9497, 9510, 127), nil},
		{p(9497, 9510, 127), p(9490, 9520, 96), []api.Period{p(9497, 9510, 31)}}, {p(9497, 9503, 96), p(9490, 9520, 64), []api.Period{p(9499, 9499, 32)}},
		// The second one is outside: before, after, and next to the first one.
		{p(9497, 9503, 96), p(9480, 9496, 127), []api.Period{p(9499, 9500, 96)}}, {p(9497, 9503, 96), p(9504, 9520, 127), []api.Period{p(9499, 9500, 96)}},
		{p(9497, 9503, 96), p(0, 0, 127), []api.Period{p(9499, 9500, 96)}}, {p(9497, 9503, 96), p(lastDay, lastDay, 127), []api.Period{p(9499, 9500, 96)}},
		// The second one has no days of the first one, but divides it; its set can even be empty.
		{p(9497, 9510, 96), p(9500, 9503, 31), []api.Period{p(9499, 9499, 32), p(9500, 9500, 64), p(9506, 9507, 96)}},
		{p(9497, 9510, 127), p(9501, 9502, 96), []api.Period{p(9497, 9500, 120), p(9501, 9502, 3), p(9503, 9510, 127)}},
		{p(9497, 9510, 127), p(9500, 9500, 1), []api.Period{p(9497, 9499, 56), p(9500, 9500, 64), p(9501, 9510, 127)}},
		// The first and the last day.
		{p(0, 6, 127), p(0, 0, 127), []api.Period{p(1, 6, 95)}}, {p(lastDay-6, lastDay, 127), p(lastDay, lastDay, 127), []api.Period{p(lastDay-6, lastDay-1, 119)}},
		{p(0, 0, 127), p(0, 799, 127), nil}, {p(lastDay, lastDay, 127), p(lastDay-799, lastDay, 127), nil}, {p(0, 799, 127), p(0, 799, 1), []api.Period{p(0, 799, 126)}},
		// The second one is not valid.
		{p(9497, 9503, 96), api.Period{}, []api.Period{p(9499, 9500, 96)}}, {p(9497, 9503, 96), p(9497, 9503, 128), []api.Period{p(9499, 9500, 96)}},
		{p(9497, 9503, 96), p(9500, 9499, 127), []api.Period{p(9499, 9500, 96)}}, {p(9497, 9503, 96), p(9000, 9800, 127), []api.Period{p(9499, 9500, 96)}},
		{p(9497, 9503, 96), p(math.MinInt, math.MaxInt, 127), []api.Period{p(9499, 9500, 96)}}, {p(9497, 9498, 96), api.Period{}, nil},
		// The first one is not valid, or empty.
		{p(9000, 9800, 127), p(9500, 9503, 64), nil}, {p(9497, 9510, 128), p(9500, 9503, 64), nil}, {p(9497, 9510, 255), p(9500, 9503, 64), nil},
		{p(-1, 9, 127), p(0, 3, 127), nil}, {p(lastDay-9, api.MaxDay, 127), p(lastDay-3, lastDay, 127), nil}, {p(9497, 9498, 96), p(9498, 9498, 127), nil},
		{p(9510, 9497, 127), p(9500, 9503, 64), nil}, {p(math.MinInt, math.MaxInt, 127), p(9500, 9503, 64), nil}, {api.Period{}, api.Period{}, nil},
		{p(9000, 9800, 127), api.Period{}, nil}, {p(9497, 9510, 128), p(9497, 9510, 128), nil},
	} {
		if l := Without(c.a, c.b); !slices.Equal(l, c.want) {
			t.Errorf("Without(%v, %v) = %v", c.a, c.b, l)
		}
	}
}

func TestMeetAndWithoutByTheDefinition(t *testing.T) {
	pairs(func(a, b api.Period) {
		inB := set(b)
		want, wantOk := canonical(keep(set(a), func(day int) bool { return contains(inB, day) }))
		if m, ok := Meet(a, b); m != want || ok != wantOk {
			t.Errorf("Meet(%v, %v) = %v, %v, not %v", a, b, m, ok, want)
		}
		if l, want := Without(a, b), remainders(a, b); !slices.Equal(l, want) {
			t.Errorf("Without(%v, %v) = %v, not %v", a, b, l, want)
		}
	})
}

func TestWithoutIsNewMemory(t *testing.T) {
	a, b := p(9497, 9510, 127), p(9500, 9503, 64)
	l := Without(a, b)
	l[0] = api.Period{}
	if again := Without(a, b); again[0] != p(9497, 9499, 56) {
		t.Errorf("Without(%v, %v) = %v", a, b, again)
	}
}

// P4.3

func TestDaysAreSharedOut(t *testing.T) {
	pairs(func(a, b api.Period) {
		var l []int
		if m, ok := Meet(a, b); ok {
			l = append(l, Days(m)...)
		}
		for _, r := range Without(a, b) {
			l = append(l, Days(r)...)
		}
		slices.Sort(l)
		if !slices.Equal(l, set(a)) {
			t.Errorf("Meet(%v, %v) and Without have the days %v", a, b, l)
		}
	})
}

// P4.4

func TestEqualSetsHaveOneCanonicalPeriod(t *testing.T) {
	found := map[string]api.Period{}
	several := 0
	for from := 9497; from < 9513; from++ {
		for to := from; to < 9513; to++ {
			for days := 1; days <= 127; days++ {
				q := p(from, to, days)
				key := ""
				for _, day := range set(q) {
					key += strconv.Itoa(day) + " "
				}
				n, ok := Normal(q)
				if ok != (key != "") {
					t.Errorf("Normal(%v) = %v, %v", q, n, ok)
				}
				before, has := found[key]
				if has && before != n {
					t.Errorf("the days %v have the canonical periods %v and %v", key, before, n)
				}
				if has {
					several++
				}
				found[key] = n
			}
		}
	}
	if several == 0 {
		t.Error("no two periods have the same set")
	}
}

func TestMeetIsCommutative(t *testing.T) {
	pairs(func(a, b api.Period) {
		m, ok := Meet(a, b)
		if other, otherOk := Meet(b, a); m != other || ok != otherOk {
			t.Errorf("Meet(%v, %v) = %v, %v, the other way round %v, %v", a, b, m, ok, other, otherOk)
		}
	})
}

func TestMeetWithItself(t *testing.T) {
	check := func(q api.Period) {
		n, ok := Normal(q)
		if m, meets := Meet(q, q); m != n || meets != ok {
			t.Errorf("Meet(%v, %v) = %v, %v, not %v", q, q, m, meets, n)
		}
	}
	short(check)
	for _, q := range all() {
		check(q)
	}
}

// P4.5

func TestPrint(t *testing.T) {
	for _, c := range []struct {
		q    api.Period
		want string
	}{
		{p(9497, 9503, 96), "2026-01-01/2026-01-07/67"}, {p(9497, 9503, 127), "2026-01-01/2026-01-07/1234567"}, {p(9497, 9497, 1), "2026-01-01/2026-01-01/1"},
		{p(0, 0, 85), "2000-01-01/2000-01-01/1357"}, {p(0, 799, 42), "2000-01-01/2002-03-10/246"}, {p(lastDay, lastDay, 64), "2099-12-31/2099-12-31/7"},
		// What is written is the period, not its set.
		{p(9497, 9498, 96), "2026-01-01/2026-01-02/67"}, {p(9499, 9500, 127), "2026-01-03/2026-01-04/1234567"},
	} {
		if s := Print(c.q); s != c.want {
			t.Errorf("Print(%v) = %q", c.q, s)
		}
		if q, e := Parse(c.want); q != c.q || e != api.OK {
			t.Errorf("Parse(%q) = %v, %d", c.want, q, e)
		}
	}
	for q := range invalid() {
		if s := Print(q); s != "" {
			t.Errorf("Print(%v) = %q", q, s)
		}
	}
}

func TestPeriodsAreReadAsPrinted(t *testing.T) {
	check := func(q api.Period) {
		digits := ""
		for weekday := range weekdays {
			if q.Days&(1<<weekday) != 0 {
				digits += strconv.Itoa(weekday + 1)
			}
		}
		s := Print(q)
		if want := calendar.Print(q.From) + "/" + calendar.Print(q.To) + "/" + digits; s != want {
			t.Errorf("Print(%v) = %q, not %q", q, s, want)
		}
		if r, e := Parse(s); r != q || e != api.OK {
			t.Errorf("Parse(%q) = %v, %d", s, r, e)
		}
	}
	short(check)
	for _, q := range valid() {
		check(q)
	}
	for days := 1; days <= 127; days++ {
		check(p(0, 0, days))
		check(p(9497, 10296, days))
		check(p(lastDay, lastDay, days))
	}
	for from := range api.MaxDay {
		check(p(from, min(from+799, lastDay), 1+from%127))
	}
}

func TestParseRefuses(t *testing.T) {
	const d = "2026-01-01/2026-01-07/"
	for _, c := range []struct {
		s    string
		want api.Errno
	}{
		// A part too few, too many, or empty.
		{"", api.ErrForm}, {"/", api.ErrForm}, {"//", api.ErrForm}, {"///", api.ErrForm}, {"2026-01-01", api.ErrForm}, {"2026-01-01/2026-01-07", api.ErrForm},
		{d + "67/", api.ErrForm}, {d + "67/8", api.ErrForm}, {"/" + d + "67", api.ErrForm}, {d + "6/7", api.ErrForm}, {d, api.ErrForm}, {d + "/", api.ErrForm},
		{"/2026-01-07/67", api.ErrForm}, {"2026-01-01//67", api.ErrForm}, {"2026-01-01/67", api.ErrForm}, {"2026-01-01-2026-01-07-67", api.ErrForm},
		{"2026-02-30/2026-01-07", api.ErrForm}, {"2026-02-30/2026-02-30/1/1", api.ErrForm}, {strings.Repeat("/", 100000), api.ErrForm},
		// The weekdays.
		{d + "0", api.ErrForm}, {d + "8", api.ErrForm}, {d + "9", api.ErrForm}, {d + "01", api.ErrForm}, {d + "78", api.ErrForm}, {d + "11", api.ErrForm}, {d + "77", api.ErrForm},
		{d + "76", api.ErrForm}, {d + "132", api.ErrForm}, {d + "1233", api.ErrForm}, {d + "12345677", api.ErrForm}, {d + "12345678", api.ErrForm}, {d + "12345671", api.ErrForm},
		{d + "6 7", api.ErrForm}, {d + " 67", api.ErrForm}, {d + "67 ", api.ErrForm}, {d + "-1", api.ErrForm}, {d + "+1", api.ErrForm}, {d + "6,7", api.ErrForm}, {d + "A", api.ErrForm},
		{d + "67\n", api.ErrForm}, {d + "67\x00", api.ErrForm}, {d + "\u0661", api.ErrForm}, {d + "\uff11", api.ErrForm}, {d + "\xff", api.ErrForm}, {d + "1\x80", api.ErrForm},
		{d + strings.Repeat("1", 100000), api.ErrForm}, {d + strings.Repeat("1234567", 10000), api.ErrForm},
		// The dates.
		{"2026-1-1/2026-01-07/67", api.ErrForm}, {"2026-01-01/2026-1-7/67", api.ErrForm}, {" " + d + "67", api.ErrForm}, {"2026-01-01 /2026-01-07/67", api.ErrForm},
		{"2026-02-29/2026-03-07/67", api.ErrDay}, {"2026-01-01/2026-02-29/67", api.ErrDay}, {"1999-12-31/2000-01-07/67", api.ErrDay}, {"2099-12-31/2100-01-01/67", api.ErrDay},
		{"2026-00-01/2026-01-07/67", api.ErrDay}, {"2026-01-01/2026-13-01/67", api.ErrDay},
		// The first of several errors.
		{"2026-02-29/x/67", api.ErrDay}, {"x/2026-02-29/67", api.ErrForm}, {"2026-02-29/2026-03-07/76", api.ErrDay}, {"2026-01-01/2026-02-29/76", api.ErrDay},
		{"2026-02-29/2026-03-07/", api.ErrDay}, {"2026-01-01/x/8", api.ErrForm}, {"2026-01-07/2026-01-01/76", api.ErrForm}, {"2026-01-01/2029-01-07/8", api.ErrForm},
		// Periods that are not valid.
		{"2026-01-07/2026-01-01/1", api.ErrDay}, {"2026-01-02/2026-01-01/1234567", api.ErrDay}, {"2099-12-31/2000-01-01/1", api.ErrDay},
		{"2026-01-01/2029-01-07/1", api.ErrSize}, {"2000-01-01/2099-12-31/1", api.ErrSize}, {"2000-01-01/2002-03-11/1234567", api.ErrSize},
	} {
		if q, e := Parse(c.s); q != (api.Period{}) || e != c.want {
			t.Errorf("Parse(%.50q) = %v, %d, not %d", c.s, q, e, c.want)
		}
	}
}

func TestEveryTextOfWeekdays(t *testing.T) {
	accepted := map[int]bool{}
	var check func(digits string)
	check = func(digits string) {
		days, ascending := 0, digits != ""
		for i, c := range digits {
			days |= 1 << (c - '1')
			ascending = ascending && '1' <= c && c <= '7' && (i == 0 || digits[i-1] < digits[i])
		}
		want, wantError := api.Period{}, api.ErrForm
		if ascending {
			want, wantError = p(9497, 9503, days), api.OK
			accepted[days] = true
		}
		if q, e := Parse("2026-01-01/2026-01-07/" + digits); q != want || e != wantError {
			t.Errorf("Parse of the weekdays %q = %v, %d", digits, q, e)
		}
		// Only texts that begin with an accepted one can be accepted.
		if len(digits) < 2 || ascending {
			for c := '1'; c <= '9'; c++ {
				check(digits + string(c))
			}
		}
	}
	check("")
	if len(accepted) != 127 {
		t.Errorf("%d texts of weekdays", len(accepted))
	}
}

// checkText checks that a text is refused, or is the one that is written for its result.
func checkText(t *testing.T, s string) {
	q, e := Parse(s)
	if e != api.OK && q != (api.Period{}) {
		t.Errorf("Parse(%q) = %v, %d", s, q, e)
	}
	if e == api.OK && (Check(q) != api.OK || Print(q) != s) {
		t.Errorf("Parse(%q) = %v, which is written %q", s, q, Print(q))
	}
}

func TestOnlyPrintedPeriodsAreRead(t *testing.T) {
	for _, s := range []string{"2026-01-01/2026-01-07/67", "2000-02-29/2000-02-29/1234567", "2099-12-30/2099-12-31/4"} {
		for i := range len(s) + 1 {
			for c := range 256 {
				b := string([]byte{byte(c)})
				checkText(t, s[:i]+b+s[i:])
				if i < len(s) {
					checkText(t, s[:i]+b+s[i+1:])
				}
			}
			if i < len(s) {
				checkText(t, s[:i]+s[i+1:])
			}
			checkText(t, s[:i])
			checkText(t, s[i:])
		}
	}
}

// P4.6

func TestMovedByAWeek(t *testing.T) {
	move := func(q api.Period, days int) api.Period { return p(q.From+days, q.To+days, q.Days) }
	check := func(q api.Period) {
		for _, by := range []int{-7, 7, 14, 700} {
			m := move(q, by)
			if Check(q) != api.OK || Check(m) != api.OK {
				continue
			}
			days := Days(q)
			for i := range days {
				days[i] += by
			}
			if l := Days(m); !slices.Equal(l, days) || Count(m) != len(days) {
				t.Errorf("Days(%v) = %v, not those of %v moved by %d", m, l, q, by)
			}
			n, ok := Normal(q)
			if moved, movedOk := Normal(m); movedOk != ok || ok && moved != move(n, by) {
				t.Errorf("Normal(%v) = %v, not %v moved by %d", m, moved, n, by)
			}
			for day := q.From - 10; day <= q.To+10; day++ {
				if Has(m, day+by) != Has(q, day) {
					t.Errorf("Has(%v, %d) = %v", m, day+by, Has(m, day+by))
				}
			}
		}
	}
	short(check)
	for _, q := range valid() {
		check(q)
	}
	for days := 1; days <= 127; days++ {
		check(p(9490, 9503, days))
		check(p(0, 6, days))
		check(p(lastDay-13, lastDay-7, days))
	}
	// A whole week has each weekday once, wherever it begins.
	for from := range api.MaxDay - 13 {
		if l, next := Days(p(from, from+6, 85)), Days(p(from+7, from+13, 85)); len(l) != 4 || len(next) != 4 || l[0]+7 != next[0] || l[3]+7 != next[3] {
			t.Errorf("from %d on: %v, and a week later %v", from, l, next)
		}
	}
}
