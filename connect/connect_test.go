package connect

import (
	"cmp"
	"math"
	"reflect"
	"slices"
	"strconv"
	"strings"
	"testing"

	"airline/api"
	"airline/places"
)

const (
	// farPast and farFuture are the bounds of the times of segments.
	farPast   = -1 << 40
	farFuture = 1 << 40
)

// world returns two airports of London, two of Paris and one of New York. The airport ROM belongs to London, and is also the code of a city of another airport.
func world() api.Places {
	return api.Places{
		Airports: []api.Airport{
			{Code: "LHR", City: "LON", Country: "GB"}, {Code: "LGW", City: "LON", Country: "GB"}, {Code: "CDG", City: "PAR", Country: "FR"}, {Code: "ORY", City: "PAR", Country: "FR", Zone: api.Zone{Offset: 60, Shifts: []api.Shift{{At: 1000, Offset: 120}}}},
			{Code: "JFK", City: "NYC", Country: "US"}, {Code: "ROM", City: "LON", Country: "GB"}, {Code: "FCO", City: "ROM", Country: "IT"},
		},
		Distances: []api.Distance{{From: "LON", To: "PAR", Miles: 214}},
	}
}

// ct returns a connecting time, and times a list, to write them shortly.
func ct(airport, in, out string, minutes int) api.Connect {
	return api.Connect{Airport: airport, In: in, Out: out, Minutes: minutes}
}

func times(l ...api.Connect) []api.Connect { return l }

// ba returns a segment of BA, and by one of another carrier.
func ba(from, to string, dep, arr int) api.Seg { return by("BA", from, to, dep, arr) }

func by(carrier, from, to string, dep, arr int) api.Seg {
	return api.Seg{Carrier: carrier, Number: 1, Day: 9497, From: from, To: to, Dep: dep, Arr: arr}
}

// journey returns a list of segments.
func journey(l ...api.Seg) []api.Seg { return l }

// numbers returns a source of numbers from 0 to n - 1 that look like chance.
func numbers(seed uint64) func(n int) int {
	return func(n int) int {
		seed = seed*6364136223846793005 + 1442695040888963407
		return int(seed >> 33 % uint64(n))
	}
}

func TestPlacesAreRight(t *testing.T) {
	if x := places.Check(world()); len(x) > 0 {
		t.Errorf("the places of the tests are not right: %v", x)
	}
}

// P11.1: Check

// checkIs fails if Check does not return these violations, which are written like "5 connect 1", in this order.
func checkIs(t *testing.T, l []api.Connect, want ...string) {
	t.Helper()
	got := []string{}
	for _, x := range Check(l) {
		got = append(got, strconv.Itoa(int(x.Err))+" "+x.At)
	}
	if !slices.Equal(got, want) {
		t.Errorf("Check(%v) = %q, not %q", l, got, want)
	}
}

func TestCheckOfRightTimes(t *testing.T) {
	checkIs(t, nil)
	checkIs(t, times())
	for _, airport := range []string{"", "LHR", "AAA", "ZZZ"} {
		for _, in := range []string{"", "BA", "9W", "W9", "AA", "ZZ", "A0", "Z9", "0A", "9Z"} {
			for _, out := range []string{"", "BA", "9W", "W9", "AA", "ZZ", "A0", "Z9", "0A", "9Z"} {
				checkIs(t, times(ct(airport, in, out, 45)))
			}
		}
	}
	for _, minutes := range []int{0, 1, 2, 59, 60, 255, 256, 1439, 1440} {
		checkIs(t, times(ct("LHR", "BA", "AF", minutes)))
	}
}

func TestCheckOfExample(t *testing.T) {
	checkIs(t, times(ct("LHR", "", "", 2000)), "2 connect 0")
}

func TestCheckOfNames(t *testing.T) {
	for _, airport := range []string{"L", "LH", "LHRX", "lhr", "LHr", "lHR", "LhR", "L1R", "1HR", "LH1", "L R", " LHR", "LHR ", "   ", "L\x00R", "LÄ", "L@R", "L[R", "LHRLHR", "\xff\xff\xff"} {
		checkIs(t, times(ct(airport, "", "", 45)), "5 connect 0")
		checkIs(t, times(ct(airport, "BA", "AF", 45)), "5 connect 0")
	}
	for _, carrier := range []string{"B", "9", "99", "00", "BAA", "B9A", "ba", "Ba", "bA", "b9", " B", "B ", "  ", "B-", "B\x00", "Ä", "@A", "[A", "/A", ":A", "A/", "A:"} {
		checkIs(t, times(ct("", carrier, "", 45)), "5 connect 0")
		checkIs(t, times(ct("", "", carrier, 45)), "5 connect 0")
		checkIs(t, times(ct("LHR", carrier, "AF", 45)), "5 connect 0")
		checkIs(t, times(ct("LHR", "AF", carrier, 45)), "5 connect 0")
		checkIs(t, times(ct("lhr", carrier, carrier, 45)), "5 connect 0")
	}
	// Codes of another kind.
	checkIs(t, times(ct("BA", "", "", 45), ct("", "LHR", "", 45), ct("", "", "LHR", 45)), "5 connect 0", "5 connect 1", "5 connect 2")
}

func TestCheckOfMinutes(t *testing.T) {
	for _, minutes := range []int{-1, -60, 1441, 2000, 1 << 16, 1<<16 + 60, 1 << 32, 1<<32 + 60, math.MaxInt, math.MinInt, math.MinInt + 60} {
		checkIs(t, times(ct("LHR", "BA", "AF", minutes)), "2 connect 0")
		checkIs(t, times(ct("", "", "", 60), ct("LHR", "", "", minutes), ct("CDG", "", "", 60)), "2 connect 1")
	}
}

func TestCheckOfEqualTimes(t *testing.T) {
	for _, c := range kit() {
		again := c
		again.Minutes++
		checkIs(t, times(c, c), "6 connect 1")
		checkIs(t, times(c, again), "6 connect 1")
		checkIs(t, times(c, ct("FCO", "U2", "U2", 45), again, c), "6 connect 2", "6 connect 3")
		for _, other := range kit() {
			if other.Airport != c.Airport || other.In != c.In || other.Out != c.Out {
				other.Minutes = c.Minutes
				checkIs(t, times(c, other))
				checkIs(t, times(c, other, c), "6 connect 2")
			}
		}
	}
	// Fields that would be alike if they were written one after the other.
	checkIs(t, times(ct("", "BA", "", 1), ct("", "", "BA", 1)))
	checkIs(t, times(ct("", "BAAF", "", 1), ct("", "BA", "AF", 1), ct("", "", "BAAF", 1), ct("BAAF", "", "", 1)), "5 connect 0", "5 connect 2", "5 connect 3")
	checkIs(t, times(ct("", "A\x00", "B", 1), ct("", "A", "\x00B", 1), ct("", "A B", "C", 1), ct("", "A", "B C", 1)), "5 connect 0", "5 connect 1", "5 connect 2", "5 connect 3")
}

func TestCheckOfSeveralViolations(t *testing.T) {
	checkIs(t, times(ct("lhr", "", "", -1)), "5 connect 0", "2 connect 0")
	checkIs(t, times(ct("lhr", "", "", 1), ct("lhr", "", "", 1)), "5 connect 0", "5 connect 1", "6 connect 1")
	checkIs(t, times(ct("", "", "", 1441), ct("", "", "", 1441)), "2 connect 0", "2 connect 1", "6 connect 1")
	checkIs(t, times(ct("LHR", "99", "", -1), ct("LHR", "99", "", -1), ct("LHR", "99", "", -2), ct("LHR", "99", "", 0)),
		"5 connect 0", "2 connect 0", "5 connect 1", "2 connect 1", "6 connect 1", "5 connect 2", "2 connect 2", "6 connect 2", "5 connect 3", "6 connect 3")
	checkIs(t, times(ct("LHR", "", "ba", 1441), ct("LHR", "", "", 45), ct("LHR", "", "ba", 45), ct("LHR", "", "", -1)),
		"5 connect 0", "2 connect 0", "5 connect 2", "6 connect 2", "2 connect 3", "6 connect 3")
}

// Check compares each element with those before it; with so many, there is no time for all pairs.
func TestCheckOfManyTimes(t *testing.T) {
	var l []api.Connect
	for i := range 400000 {
		l = append(l, ct(strings.Repeat("x", i%100), strconv.Itoa(i/100), "BA", i%1441))
	}
	for i, x := range Check(l) {
		if x.Err != api.ErrName || x.At != "connect "+strconv.Itoa(i) {
			t.Fatalf("violation %d is %v", i, x)
		}
	}
	if got := Check(append(l, l[0])); !slices.Equal(got[len(l):], []api.Fault{{Err: api.ErrName, At: "connect 400000"}, {Err: api.ErrTwice, At: "connect 400000"}}) {
		t.Error(got[len(l):])
	}
}

// kit returns right connecting times with all fields empty and filled, and different minutes.
func kit() []api.Connect {
	var l []api.Connect
	for _, airport := range []string{"", "LHR", "CDG"} {
		for _, in := range []string{"", "BA", "AF"} {
			for _, out := range []string{"", "BA", "AF"} {
				l = append(l, ct(airport, in, out, 30+len(l)))
			}
		}
	}
	return l
}

// oddTimes returns connecting times of which most are not right.
func oddTimes() []api.Connect {
	return times(ct("", "", "", 60), ct("LHR", "", "", -1), ct("LHR", "", "", 45), ct("LHR", "BA", "", 1440), ct("LHR", "", "BA", 1441), ct("lhr", "BA", "", 0), ct("", "99", "", 30), ct("", "BA", "b", math.MaxInt), ct("", "BA", "b", math.MinInt), ct("LHRX", "BAA", "BAA", 2000))
}

// upToThree calls f with all lists of up to three elements.
func upToThree[T any](all []T, f func(l []T)) {
	f(nil)
	for _, a := range all {
		f([]T{a})
		for _, b := range all {
			f([]T{a, b})
			for _, c := range all {
				f([]T{a, b, c})
			}
		}
	}
}

// violations returns the violations of connecting times of oddTimes, by the definition.
func violations(l []api.Connect) []api.Fault {
	var faults []api.Fault
	for i, c := range l {
		add := func(e api.Errno, violated bool) {
			if violated {
				faults = append(faults, api.Fault{Err: e, At: "connect " + strconv.Itoa(i)})
			}
		}
		carriers := []string{"", "BA", "AF"}
		add(api.ErrName, c.Airport != "" && c.Airport != "LHR" || !slices.Contains(carriers, c.In) || !slices.Contains(carriers, c.Out))
		add(api.ErrArg, c.Minutes < 0 || c.Minutes > 1440)
		twice := false
		for _, x := range l[:i] {
			twice = twice || x.Airport == c.Airport && x.In == c.In && x.Out == c.Out
		}
		add(api.ErrTwice, twice)
	}
	return faults
}

func TestCheckIsAsDefined(t *testing.T) {
	seen := make(map[int]int)
	upToThree(oddTimes(), func(l []api.Connect) {
		got, want := Check(l), violations(l)
		if !slices.Equal(got, want) {
			t.Fatalf("Check(%v) = %v, not %v", l, got, want)
		}
		seen[len(want)]++
	})
	for n := range 7 {
		if seen[n] == 0 {
			t.Errorf("no list has %d violations", n)
		}
	}
}

// P11.1: Minutes

// minutesIs fails if Minutes does not return this number.
func minutesIs(t *testing.T, l []api.Connect, airport, in, out string, want int) {
	t.Helper()
	if got := Minutes(l, airport, in, out); got != want {
		t.Errorf("Minutes(%v, %q, %q, %q) = %d, not %d", l, airport, in, out, got, want)
	}
}

func TestMinutesOfExample(t *testing.T) {
	l := times(ct("LHR", "", "", 45), ct("", "BA", "BA", 30))
	minutesIs(t, l, "LHR", "BA", "BA", 30)
	minutesIs(t, l, "LHR", "BA", "AF", 45)
}

func TestMinutesWithoutMatch(t *testing.T) {
	minutesIs(t, nil, "LHR", "BA", "AF", 60)
	minutesIs(t, nil, "", "", "", 60)
	for _, c := range times(ct("CDG", "", "", 45), ct("", "AF", "", 45), ct("", "", "BA", 45), ct("LHR", "AF", "", 45), ct("LHR", "", "BA", 45), ct("", "BA", "BA", 45), ct("CDG", "BA", "AF", 45), ct("LHR", "AF", "AF", 45), ct("LHR", "BA", "BA", 45), ct("LHR", "AF", "BA", 45), ct("lhr", "", "", 45), ct("LH", "", "", 45), ct("LHRX", "", "", 45), ct("", "B", "", 45), ct("", "ba", "", 45), ct("", "", "AFX", 45)) {
		minutesIs(t, times(c), "LHR", "BA", "AF", 60)
		minutesIs(t, times(c, ct("LHR", "", "AF", 70), c), "LHR", "BA", "AF", 70)
	}
}

// Each of these is preferred to all that come after it.
func preferred() []api.Connect {
	return times(ct("LHR", "BA", "AF", 0), ct("LHR", "BA", "", 1), ct("LHR", "", "AF", 2), ct("", "BA", "AF", 3), ct("LHR", "", "", 4), ct("", "BA", "", 5), ct("", "", "AF", 6), ct("", "", "", 7))
}

func TestMinutesOfSeveralMatches(t *testing.T) {
	l := preferred()
	// Each set of them, in both orders.
	for set := 1; set < 1<<len(l); set++ {
		var some []api.Connect
		for i, c := range l {
			if set>>i&1 == 1 {
				some = append(some, c)
			}
		}
		minutesIs(t, some, "LHR", "BA", "AF", some[0].Minutes)
		back := slices.Clone(some)
		slices.Reverse(back)
		minutesIs(t, back, "LHR", "BA", "AF", some[0].Minutes)
	}
}

func TestMinutesOfEqualTimes(t *testing.T) {
	for _, c := range preferred() {
		c.Minutes = 20
		more, less := c, c
		more.Minutes, less.Minutes = 21, 19
		minutesIs(t, times(c, more), "LHR", "BA", "AF", 20)
		minutesIs(t, times(c, less), "LHR", "BA", "AF", 20)
		minutesIs(t, times(ct("JFK", "", "", 1), c, less, more, c), "LHR", "BA", "AF", 20)
	}
}

func TestMinutesOfCarriersInTheirRoles(t *testing.T) {
	l := times(ct("", "BA", "", 10), ct("", "", "AF", 20), ct("", "AF", "BA", 30))
	minutesIs(t, l, "LHR", "BA", "AF", 10)
	minutesIs(t, l, "LHR", "AF", "BA", 30)
	minutesIs(t, l, "LHR", "BA", "BA", 10)
	minutesIs(t, l, "LHR", "AF", "AF", 20)
	minutesIs(t, l, "BA", "LHR", "LHR", 60)
}

func TestMinutesOfEmptyArguments(t *testing.T) {
	l := times(ct("", "", "", 7), ct("LHR", "", "", 4), ct("", "BA", "", 5), ct("", "", "AF", 6), ct("LHR", "BA", "AF", 0))
	minutesIs(t, l, "", "", "", 7)
	minutesIs(t, l, "LHR", "", "", 4)
	minutesIs(t, l, "", "BA", "", 5)
	minutesIs(t, l, "", "", "AF", 6)
	minutesIs(t, l, "", "BA", "AF", 5)
	minutesIs(t, l[1:], "", "", "", 60)
}

func TestMinutesThatAreNotAllowed(t *testing.T) {
	for _, minutes := range []int{0, -1, -2000, 1441, 1 << 40, math.MaxInt, math.MinInt} {
		minutesIs(t, times(ct("LHR", "", "", minutes), ct("", "", "", 45)), "LHR", "BA", "AF", minutes)
	}
	// Codes that are none match what is equal.
	minutesIs(t, times(ct("l", "99", "?", -7), ct("l", "", "?", 45)), "l", "99", "?", -7)
}

// minimum returns the minimum connecting time, by the definition.
func minimum(l []api.Connect, airport, in, out string) int {
	var matching []api.Connect
	for _, c := range l {
		if (c.Airport == "" || c.Airport == airport) && (c.In == "" || c.In == in) && (c.Out == "" || c.Out == out) {
			matching = append(matching, c)
		}
	}
	if len(matching) == 0 {
		return 60
	}
	filled := func(field string) int { return min(len(field), 1) }
	slices.SortStableFunc(matching, func(a, b api.Connect) int {
		return cmp.Or(
			cmp.Compare(filled(b.Airport)+filled(b.In)+filled(b.Out), filled(a.Airport)+filled(a.In)+filled(a.Out)),
			cmp.Compare(filled(b.Airport), filled(a.Airport)),
			cmp.Compare(filled(b.In), filled(a.In)))
	})
	return matching[0].Minutes
}

// asked calls f with arguments of Minutes.
func asked(f func(airport, in, out string)) {
	for _, airport := range []string{"LHR", "CDG", "JFK", ""} {
		for _, in := range []string{"BA", "AF", "U2", ""} {
			for _, out := range []string{"BA", "AF", "U2", ""} {
				f(airport, in, out)
			}
		}
	}
}

func TestMinutesIsAsDefined(t *testing.T) {
	is := func(l []api.Connect) {
		asked(func(airport, in, out string) {
			if got, want := Minutes(l, airport, in, out), minimum(l, airport, in, out); got != want {
				t.Fatalf("Minutes(%v, %q, %q, %q) = %d, not %d", l, airport, in, out, got, want)
			}
		})
	}
	for _, a := range kit() {
		for _, b := range kit() {
			is(times(a, b))
		}
	}
	next := numbers(1)
	for range 5000 {
		var l []api.Connect
		for range next(12) {
			c := kit()[next(27)]
			c.Minutes = next(3000) - 500
			l = append(l, c)
		}
		is(l)
	}
}

// P11.1: Fits

// fitsIs fails if Fits does not return this.
func fitsIs(t *testing.T, l []api.Connect, a, b api.Seg, want bool) {
	t.Helper()
	if got := Fits(l, a, b); got != want {
		t.Errorf("Fits(%v, %v, %v) = %t, not %t", l, a, b, got, want)
	}
}

// waitIs fails if Fits does not return this for a departure so many minutes after an arrival, wherever the arrival is.
func waitIs(t *testing.T, l []api.Connect, wait int, want bool) {
	t.Helper()
	for _, arr := range []int{0, 500, -1, 123456789, -1 << 33} {
		fitsIs(t, l, ba("JFK", "LHR", arr-400, arr), by("AF", "LHR", "CDG", arr+wait, arr+wait+70), want)
	}
}

func TestFitsOfExample(t *testing.T) {
	waitIs(t, nil, 59, false)
	waitIs(t, nil, 60, true)
}

func TestFitsOfMinutes(t *testing.T) {
	for _, minutes := range []int{0, 1, 45, 60, 61, 1000, 1439, 1440} {
		l := times(ct("LHR", "BA", "AF", minutes))
		waitIs(t, l, minutes-1, false)
		waitIs(t, l, minutes, true)
		waitIs(t, l, min(minutes+1, 1440), true)
		waitIs(t, l, 1439, minutes < 1440)
		waitIs(t, l, 1440, true)
		waitIs(t, l, 1441, false)
		waitIs(t, l, 1440+minutes, minutes == 0)
		waitIs(t, l, 2880, false)
	}
	waitIs(t, nil, 0, false)
	waitIs(t, nil, -1, false)
	waitIs(t, nil, -60, false)
	waitIs(t, nil, -1440, false)
	waitIs(t, nil, -100000, false)
	waitIs(t, nil, 1<<32+60, false)
	waitIs(t, nil, -1<<32+60, false)
}

func TestFitsOfMinutesThatAreNotAllowed(t *testing.T) {
	for _, minutes := range []int{1441, 2000, 1<<32 + 60, math.MaxInt} {
		l := times(ct("LHR", "", "", minutes))
		for _, wait := range []int{0, 60, 1440, 1441, 2000} {
			waitIs(t, l, wait, false)
		}
	}
	waitIs(t, times(ct("LHR", "", "", -5)), -6, false)
	waitIs(t, times(ct("LHR", "", "", -5)), -5, true)
	waitIs(t, times(ct("LHR", "", "", math.MinInt)), -1<<34, true)
	waitIs(t, times(ct("LHR", "", "", math.MinInt)), 1440, true)
	waitIs(t, times(ct("LHR", "", "", math.MinInt)), 1441, false)
}

func TestFitsOfAirportsAndCarriers(t *testing.T) {
	for _, from := range []string{"LGW", "LON", "CDG", "JFK", "", "lhr", "LHRX", "LH"} {
		fitsIs(t, nil, ba("JFK", "LHR", 100, 500), ba(from, "CDG", 600, 700), false)
		fitsIs(t, nil, ba("JFK", from, 100, 500), ba("LHR", "CDG", 600, 700), false)
		fitsIs(t, nil, ba("JFK", from, 100, 500), ba(from, "CDG", 600, 700), true)
	}
	// The minimum is that of the airport between, and of the carriers in their order.
	l := times(ct("JFK", "", "", 200), ct("CDG", "", "", 300), ct("", "AF", "BA", 120), ct("LHR", "BA", "", 90))
	fitsIs(t, l, by("BA", "JFK", "LHR", 100, 500), by("AF", "LHR", "CDG", 590, 700), true)
	fitsIs(t, l, by("BA", "JFK", "LHR", 100, 500), by("AF", "LHR", "CDG", 589, 700), false)
	fitsIs(t, l, by("AF", "JFK", "LHR", 100, 500), by("BA", "LHR", "CDG", 620, 700), true)
	fitsIs(t, l, by("AF", "JFK", "LHR", 100, 500), by("BA", "LHR", "CDG", 619, 700), false)
	// Nothing else counts: a segment may go back, and need no time.
	fitsIs(t, nil, ba("JFK", "LHR", 900, 500), ba("LHR", "JFK", 560, 100), true)
	fitsIs(t, nil, ba("LHR", "LHR", 500, 500), api.Seg{From: "LHR", Dep: 560}, true)
	fitsIs(t, nil, api.Seg{}, api.Seg{}, false)
	fitsIs(t, times(ct("", "", "", 0)), api.Seg{}, api.Seg{}, true)
}

func TestFitsAtTheBoundsOfTimes(t *testing.T) {
	for _, x := range []struct {
		arr, dep int
		want     bool
	}{
		{farPast, farPast + 59, false}, {farPast, farPast + 60, true}, {farPast, farPast + 1440, true}, {farPast, farPast + 1441, false},
		{farFuture - 60, farFuture, true}, {farFuture - 59, farFuture, false}, {farFuture - 1440, farFuture, true}, {farFuture - 1441, farFuture, false},
		{farPast, farFuture, false}, {farFuture, farPast, false}, {farPast, farPast, false}, {farFuture, farFuture, false},
	} {
		fitsIs(t, nil, ba("JFK", "LHR", farPast, x.arr), ba("LHR", "CDG", x.dep, farFuture), x.want)
	}
	fitsIs(t, times(ct("", "", "", math.MinInt)), ba("JFK", "LHR", 0, farFuture), ba("LHR", "CDG", farPast, 0), true)
	fitsIs(t, times(ct("", "", "", math.MaxInt)), ba("JFK", "LHR", 0, farPast), ba("LHR", "CDG", farFuture, 0), false)
}

// fitting reports whether a segment fits to another one, by the definition.
func fitting(l []api.Connect, a, b api.Seg) bool {
	return a.To == b.From && a.Arr+minimum(l, a.To, a.Carrier, b.Carrier) <= b.Dep && b.Dep <= a.Arr+1440
}

func TestFitsIsAsDefined(t *testing.T) {
	next := numbers(2)
	fit := 0
	for range 200000 {
		var l []api.Connect
		for range next(4) {
			c := kit()[next(27)]
			c.Minutes = next(2000) - 200
			l = append(l, c)
		}
		airports, carriers := []string{"LHR", "LHR", "CDG"}, []string{"BA", "AF", "U2"}
		a := by(carriers[next(3)], "JFK", airports[next(3)], 0, next(4000))
		b := by(carriers[next(3)], airports[next(3)], "JFK", next(4000), 0)
		want := fitting(l, a, b)
		fitsIs(t, l, a, b, want)
		if want {
			fit++
		}
	}
	if fit < 10000 {
		t.Errorf("only %d pairs fit", fit)
	}
}

// P11.2

// validIs fails if Valid does not return this error for a journey without connecting times.
func validIs(t *testing.T, l []api.Seg, want api.Errno) {
	t.Helper()
	if got := Valid(world(), nil, l); got != want {
		t.Errorf("Valid(.., nil, %v) = %d, not %d", l, got, want)
	}
}

// changeIs fails if Valid does not return this error for a change from an airport to another one with so many minutes between.
func changeIs(t *testing.T, l []api.Connect, to, from string, wait int, want api.Errno) {
	t.Helper()
	segs := journey(ba("JFK", to, 100, 500), by("AF", from, "FCO", 500+wait, 501+wait))
	if got := Valid(world(), l, segs); got != want {
		t.Errorf("Valid(.., %v, %v) = %d, not %d", l, segs, got, want)
	}
}

// long returns a right journey of MaxSegs segments, with a change to another airport of the city, a stopover, and airports that occur twice.
func long() []api.Seg {
	return journey(ba("JFK", "LHR", 100, 500), by("AF", "LGW", "CDG", 740, 800), by("AF", "CDG", "ORY", 860, 861), ba("ORY", "JFK", 9000, 9500), ba("JFK", "LHR", 9560, 9900), ba("LHR", "FCO", 9960, 9999))
}

// with returns a journey in which one segment is changed.
func with(l []api.Seg, i int, change func(s *api.Seg)) []api.Seg {
	l = slices.Clone(l)
	change(&l[i])
	return l
}

func TestValidOfSizes(t *testing.T) {
	validIs(t, nil, api.ErrSize)
	validIs(t, journey(), api.ErrSize)
	l := long()
	for n := 1; n <= api.MaxSegs; n++ {
		validIs(t, l[:n], api.OK)
		validIs(t, l[len(l)-n:], api.OK)
	}
	validIs(t, append(l, ba("FCO", "CDG", 20000, 20100)), api.ErrSize)
	validIs(t, make([]api.Seg, 7), api.ErrSize)
	validIs(t, make([]api.Seg, 1000), api.ErrSize)
	validIs(t, make([]api.Seg, 6), api.ErrPlace)
}

func TestValidOfUnknownAirports(t *testing.T) {
	for i := range long() {
		for _, code := range []string{"XXX", "", "lhr", "LHRX", "LON", "PAR", "NYC", "LH"} {
			validIs(t, with(long(), i, func(s *api.Seg) { s.From = code }), api.ErrPlace)
			validIs(t, with(long(), i, func(s *api.Seg) { s.To = code }), api.ErrPlace)
			validIs(t, with(long(), i, func(s *api.Seg) { s.From, s.To = code, code }), api.ErrPlace)
		}
	}
	// An unknown airport that is the same one before and after it is unknown all the same.
	validIs(t, journey(ba("JFK", "XXX", 1, 2), ba("XXX", "LHR", 100, 200)), api.ErrPlace)
	for _, p := range []api.Places{{}, {Airports: world().Airports[1:]}} {
		if e := Valid(p, nil, long()); e != api.ErrPlace {
			t.Error(e)
		}
	}
}

func TestValidOfSegmentsWithoutTime(t *testing.T) {
	for i := range long() {
		validIs(t, with(long(), i, func(s *api.Seg) { s.Arr = s.Dep }), api.ErrTime)
		validIs(t, with(long(), i, func(s *api.Seg) { s.Arr = s.Dep - 1 }), api.ErrTime)
		validIs(t, with(long(), i, func(s *api.Seg) { s.Arr = farPast }), api.ErrTime)
		validIs(t, with(long(), i, func(s *api.Seg) { s.Arr = s.Dep + 1 }), api.OK)
	}
}

func TestValidOfSegmentsThatDoNotFollow(t *testing.T) {
	for i, from := range []string{"", "CDG", "LHR", "LGW", "FCO", "JFK"} {
		if i > 0 {
			validIs(t, with(long(), i, func(s *api.Seg) { s.From = from }), api.ErrLeg)
		}
	}
	// An airport with the code of the city of another one is not in this city, but in its own one.
	changeIs(t, nil, "FCO", "ROM", 1000, api.ErrLeg)
	changeIs(t, nil, "ROM", "FCO", 1000, api.ErrLeg)
	changeIs(t, nil, "ROM", "LHR", 240, api.OK)
	changeIs(t, nil, "LGW", "ROM", 240, api.OK)
	changeIs(t, nil, "JFK", "LHR", 1000, api.ErrLeg)
	// Another airport of the country is not enough.
	p := world()
	p.Airports = append(p.Airports, api.Airport{Code: "MAN", City: "MAN", Country: "GB"})
	if e := Valid(p, nil, journey(ba("JFK", "MAN", 1, 2), ba("LHR", "CDG", 1000, 1001))); e != api.ErrLeg {
		t.Error(e)
	}
}

func TestValidOfTimesAtAnAirport(t *testing.T) {
	for _, wait := range []int{60, 61, 239, 1440, 1441, 2000, 100000, 1 << 39} {
		changeIs(t, nil, "LHR", "LHR", wait, api.OK)
	}
	for _, wait := range []int{59, 1, 0, -1, -60, -1000, -1 << 39} {
		changeIs(t, nil, "LHR", "LHR", wait, api.ErrTime)
	}
	for _, minutes := range []int{0, 1, 45, 1440, 2000, -5} {
		// The segments are of BA and AF, in this order.
		l := times(ct("LHR", "AF", "BA", 3000), ct("LHR", "BA", "AF", minutes), ct("JFK", "BA", "AF", 3000), ct("FCO", "BA", "AF", 3000))
		changeIs(t, l, "LHR", "LHR", minutes-1, api.ErrTime)
		changeIs(t, l, "LHR", "LHR", minutes, api.OK)
		changeIs(t, l, "LHR", "LHR", minutes+1, api.OK)
	}
	changeIs(t, times(ct("", "", "", math.MaxInt)), "LHR", "LHR", 1<<39, api.ErrTime)
	changeIs(t, times(ct("", "", "", math.MinInt)), "LHR", "LHR", -1<<39, api.OK)
}

func TestValidOfTimesBetweenAirportsOfACity(t *testing.T) {
	for _, l := range [][]api.Connect{nil, times(ct("", "", "", 0)), times(ct("LHR", "", "", 1000), ct("LGW", "", "", 1000)), times(ct("", "BA", "AF", 1440))} {
		for _, x := range [][2]string{{"LHR", "LGW"}, {"LGW", "LHR"}, {"CDG", "ORY"}, {"ROM", "LGW"}} {
			for _, wait := range []int{-1, 0, 60, 239} {
				changeIs(t, l, x[0], x[1], wait, api.ErrTime)
			}
			for _, wait := range []int{240, 241, 1440, 1441, 100000} {
				changeIs(t, l, x[0], x[1], wait, api.OK)
			}
		}
	}
}

func TestValidOfTimesAtEachPlace(t *testing.T) {
	// The least departures of the segments of long, as their minimum times allow them.
	for i, least := range []int{0, 740, 860, 921, 9560, 9960} {
		if i == 0 {
			continue
		}
		validIs(t, with(long(), i, func(s *api.Seg) { s.Dep = least }), api.OK)
		validIs(t, with(long(), i, func(s *api.Seg) { s.Dep = least - 1 }), api.ErrTime)
	}
	// The first segment has none before it.
	validIs(t, with(long(), 0, func(s *api.Seg) { s.Dep = farPast }), api.OK)
}

func TestValidAtTheBoundsOfTimes(t *testing.T) {
	validIs(t, journey(ba("JFK", "LHR", farPast, farFuture)), api.OK)
	validIs(t, journey(ba("JFK", "LHR", farFuture, farPast)), api.ErrTime)
	validIs(t, journey(ba("JFK", "LHR", farPast, farPast+1), ba("LHR", "CDG", farFuture-1, farFuture)), api.OK)
	validIs(t, journey(ba("JFK", "LHR", farPast, farFuture), ba("LHR", "CDG", farPast, farFuture)), api.ErrTime)
	validIs(t, journey(ba("JFK", "LHR", farPast, farFuture), ba("LGW", "CDG", farPast, farFuture)), api.ErrTime)
	validIs(t, journey(ba("JFK", "LHR", farPast, farFuture-61), ba("LHR", "CDG", farFuture-1, farFuture)), api.OK)
	validIs(t, journey(ba("JFK", "LHR", farPast, farFuture-60), ba("LHR", "CDG", farFuture-1, farFuture)), api.ErrTime)
}

func TestValidOfSeveralErrors(t *testing.T) {
	// Two errors of one segment.
	validIs(t, journey(ba("XXX", "LHR", 100, 100)), api.ErrPlace)
	validIs(t, journey(ba("JFK", "XXX", 100, 50)), api.ErrPlace)
	first := ba("JFK", "LHR", 100, 500)
	validIs(t, journey(first, ba("CDG", "XXX", 600, 700)), api.ErrPlace)
	validIs(t, journey(first, ba("LHR", "XXX", 100, 700)), api.ErrPlace)
	validIs(t, journey(first, ba("CDG", "JFK", 600, 600)), api.ErrTime)
	validIs(t, journey(first, ba("CDG", "JFK", 100, 700)), api.ErrLeg)
	// Errors of two segments: that of the first one counts, whatever they are.
	place := func(s *api.Seg) { s.To = "XXX" }
	time := func(s *api.Seg) { s.Arr = s.Dep }
	leg := func(s *api.Seg) { s.From = "ROM" }
	early := func(s *api.Seg) { s.Dep = -5 }
	for _, a := range []struct {
		change func(s *api.Seg)
		want   api.Errno
	}{{place, api.ErrPlace}, {time, api.ErrTime}, {leg, api.ErrLeg}, {early, api.ErrTime}} {
		for _, b := range []func(s *api.Seg){place, time, leg, early} {
			for i := 3; i < api.MaxSegs; i++ {
				validIs(t, with(with(long(), 2, a.change), i, b), a.want)
			}
		}
	}
	// The number of segments is the first of all.
	validIs(t, append(long(), ba("XXX", "YYY", 5, 0)), api.ErrSize)
}

// validity returns the error of Valid, by the definition.
func validity(p api.Places, l []api.Connect, segs []api.Seg) api.Errno {
	if len(segs) == 0 || len(segs) > 6 {
		return api.ErrSize
	}
	city := func(code string) string {
		for _, a := range p.Airports {
			if a.Code == code {
				return a.City
			}
		}
		return ""
	}
	for i, s := range segs {
		switch {
		case city(s.From) == "" || city(s.To) == "":
			return api.ErrPlace
		case s.Arr <= s.Dep:
			return api.ErrTime
		case i > 0 && city(s.From) != city(segs[i-1].To):
			return api.ErrLeg
		case i > 0 && s.From != segs[i-1].To && s.Dep < segs[i-1].Arr+240:
			return api.ErrTime
		case i > 0 && s.From == segs[i-1].To && s.Dep < segs[i-1].Arr+minimum(l, s.From, segs[i-1].Carrier, s.Carrier):
			return api.ErrTime
		}
	}
	return api.OK
}

func TestValidIsAsDefined(t *testing.T) {
	next := numbers(3)
	p := world()
	codes := []string{"LHR", "LGW", "CDG", "ROM", "LHR", "LGW", "CDG", "ROM", "JFK", "LHR", "LGW", "XXX"}
	carriers := []string{"BA", "AF", "U2"}
	seen := make(map[api.Errno]int)
	for range 200000 {
		var l []api.Connect
		for range next(4) {
			c := kit()[next(27)]
			c.Minutes = next(300)
			l = append(l, c)
		}
		var segs []api.Seg
		now, at := 0, "LHR"
		for range 1 + next(next(8)+1) {
			// Most of the segments follow each other.
			if next(4) == 0 {
				at = codes[next(len(codes))]
			}
			dep := now + next(400) - 20
			now = dep + next(100)
			to := codes[next(len(codes))]
			segs = append(segs, by(carriers[next(3)], at, to, dep, now))
			at = to
		}
		want := validity(p, l, segs)
		if got := Valid(p, l, segs); got != want {
			t.Fatalf("Valid(.., %v, %v) = %d, not %d", l, segs, got, want)
		}
		seen[want]++
	}
	for _, e := range []api.Errno{api.OK, api.ErrSize, api.ErrPlace, api.ErrTime, api.ErrLeg} {
		if seen[e] < 2000 {
			t.Errorf("%d lists have %d", seen[e], e)
		}
	}
}

func TestValidOfTwoSegmentsIsAsDefined(t *testing.T) {
	p := world()
	l := times(ct("LHR", "", "", 45), ct("", "BA", "AF", 100), ct("CDG", "AF", "", 20))
	var all []api.Seg
	for _, carrier := range []string{"BA", "AF"} {
		for _, from := range []string{"LHR", "LGW", "CDG", "ROM", "FCO", "PAR"} {
			for _, to := range []string{"LHR", "LGW", "CDG", "ROM", "FCO", "PAR"} {
				all = append(all, by(carrier, from, to, 0, 100), by(carrier, from, to, 145, 200), by(carrier, from, to, 340, 341), by(carrier, from, to, 200, 200))
			}
		}
	}
	for _, a := range all {
		for _, b := range all {
			segs := journey(a, b)
			if got, want := Valid(p, l, segs), validity(p, l, segs); got != want {
				t.Fatalf("Valid(.., %v) = %d, not %d", segs, got, want)
			}
		}
	}
}

// P11.3

// pathsAre fails if Paths does not return these journeys, in this order.
func pathsAre(t *testing.T, l []api.Connect, segs []api.Seg, from, to string, most int, want ...[]int) {
	t.Helper()
	got, e := Paths(l, segs, from, to, most)
	if e != api.OK || !slices.EqualFunc(got, want, slices.Equal) {
		t.Errorf("Paths(%v, %v, %q, %q, %d) = %v, %d, not %v", l, segs, from, to, most, got, e, want)
	}
}

// pathsFail fails if Paths does not return this error, and no journeys.
func pathsFail(t *testing.T, segs []api.Seg, from, to string, most int, want api.Errno) {
	t.Helper()
	if got, e := Paths(nil, segs, from, to, most); e != want || len(got) > 0 {
		t.Errorf("Paths of %d segments from %q to %q by %d = %d journeys, %d, not %d", len(segs), from, to, most, len(got), e, want)
	}
}

// path returns the indices of a journey.
func path(l ...int) []int { return l }

func TestPathsOfExample(t *testing.T) {
	segs := journey(ba("JFK", "LHR", 100, 500), ba("LHR", "CDG", 560, 600), ba("JFK", "CDG", 90, 600))
	pathsAre(t, nil, segs, "JFK", "CDG", 3, path(2), path(0, 1))
}

func TestPathsOfMost(t *testing.T) {
	segs := journey(ba("JFK", "LHR", 0, 100), ba("LHR", "CDG", 200, 300), ba("CDG", "FCO", 400, 500), ba("FCO", "ROM", 600, 700), ba("LHR", "FCO", 200, 500), ba("JFK", "FCO", 0, 500), ba("JFK", "CDG", 0, 300))
	direct, ones, twos := path(5), [][]int{path(0, 4), path(6, 2)}, path(0, 1, 2)
	pathsAre(t, nil, segs, "JFK", "FCO", 1, direct)
	pathsAre(t, nil, segs, "JFK", "FCO", 2, direct, ones[0], ones[1])
	pathsAre(t, nil, segs, "JFK", "FCO", 3, direct, ones[0], ones[1], twos)
	// Those of four segments are not looked for.
	pathsAre(t, nil, segs, "JFK", "ROM", 1)
	pathsAre(t, nil, segs, "JFK", "ROM", 2, path(5, 3))
	pathsAre(t, nil, segs, "JFK", "ROM", 3, path(5, 3), path(0, 4, 3), path(6, 2, 3))
	for _, most := range []int{0, -1, -3, 4, 5, 6, 1 << 32, 1<<32 + 1, 1<<32 + 3, math.MaxInt, math.MinInt, math.MinInt + 1} {
		pathsFail(t, segs, "JFK", "FCO", most, api.ErrArg)
		pathsFail(t, nil, "JFK", "FCO", most, api.ErrArg)
		pathsFail(t, segs, "JFK", "JFK", most, api.ErrArg)
	}
}

func TestPathsOfNoSegments(t *testing.T) {
	for most := 1; most <= 3; most++ {
		pathsAre(t, nil, nil, "JFK", "LHR", most)
		pathsAre(t, nil, journey(), "JFK", "LHR", most)
		pathsAre(t, nil, nil, "JFK", "JFK", most)
		pathsAre(t, nil, nil, "", "", most)
		pathsAre(t, nil, journey(ba("JFK", "LHR", 0, 100)), "LHR", "JFK", most)
		pathsAre(t, nil, journey(ba("JFK", "LHR", 0, 100)), "JFK", "LHR", most, path(0))
	}
}

func TestPathsBackToTheSameAirport(t *testing.T) {
	segs := journey(ba("JFK", "LHR", 0, 100), ba("LHR", "JFK", 200, 300), ba("JFK", "JFK", 0, 100), ba("LHR", "CDG", 200, 300), ba("CDG", "JFK", 400, 500))
	for most := 1; most <= 3; most++ {
		for _, airport := range []string{"JFK", "LHR", "CDG", "XXX"} {
			pathsAre(t, nil, segs, airport, airport, most)
		}
	}
}

func TestPathsOfSegmentsWithinAnAirport(t *testing.T) {
	segs := journey(ba("JFK", "JFK", 0, 10), ba("JFK", "LHR", 100, 200), ba("LHR", "LHR", 300, 310), ba("LHR", "CDG", 400, 500), ba("CDG", "CDG", 600, 610))
	pathsAre(t, nil, segs, "JFK", "CDG", 3, path(1, 3))
	pathsAre(t, nil, segs, "JFK", "LHR", 3, path(1))
	pathsAre(t, nil, segs, "LHR", "CDG", 3, path(3))
	pathsAre(t, nil, segs[2:3], "LHR", "LHR", 3)
}

func TestPathsOfTheSameSegmentTwice(t *testing.T) {
	a, b := ba("JFK", "LHR", 0, 100), ba("LHR", "CDG", 200, 300)
	pathsAre(t, nil, journey(a, b, a), "JFK", "LHR", 3, path(0), path(2))
	pathsAre(t, nil, journey(a, b, a), "JFK", "CDG", 3, path(0, 1), path(2, 1))
	pathsAre(t, nil, journey(b, a, b, a), "JFK", "CDG", 3, path(1, 0), path(1, 2), path(3, 0), path(3, 2))
}

func TestPathsThatWouldComeTwiceToAnAirport(t *testing.T) {
	// By way of the first airport.
	segs := journey(ba("JFK", "LHR", 0, 100), ba("LHR", "JFK", 200, 300), ba("JFK", "CDG", 400, 500), ba("LHR", "CDG", 450, 550))
	pathsAre(t, nil, segs, "JFK", "CDG", 3, path(2), path(0, 3))
	pathsAre(t, nil, segs, "LHR", "CDG", 3, path(1, 2), path(3))
	// By way of the last airport.
	segs = journey(ba("JFK", "CDG", 0, 100), ba("CDG", "LHR", 200, 300), ba("LHR", "CDG", 400, 500), ba("JFK", "LHR", 0, 150))
	pathsAre(t, nil, segs, "JFK", "CDG", 3, path(0), path(3, 2))
	// Twice by way of one between.
	segs = journey(ba("JFK", "LHR", 0, 100), ba("LHR", "LHR", 160, 170), ba("LHR", "CDG", 230, 300))
	pathsAre(t, nil, segs, "JFK", "CDG", 3, path(0, 2))
	// Two airports of one city are two airports.
	segs = journey(ba("JFK", "LHR", 0, 100), ba("LHR", "LGW", 160, 170), ba("LGW", "CDG", 230, 300))
	pathsAre(t, nil, segs, "JFK", "CDG", 3, path(0, 1, 2))
	// But they do not connect.
	pathsAre(t, nil, journey(ba("JFK", "LHR", 0, 100), ba("LGW", "CDG", 400, 500)), "JFK", "CDG", 3)
}

func TestPathsOfConnections(t *testing.T) {
	l := times(ct("LHR", "", "", 45), ct("LHR", "BA", "AF", 90), ct("CDG", "AF", "", 20))
	at := func(dep int) []api.Seg {
		return journey(by("BA", "JFK", "LHR", 0, 100), by("AF", "LHR", "CDG", dep, dep+10), by("U2", "CDG", "FCO", dep+30, dep+40))
	}
	pathsAre(t, l, at(189), "JFK", "CDG", 3)
	pathsAre(t, l, at(190), "JFK", "CDG", 3, path(0, 1))
	pathsAre(t, l, at(190), "JFK", "FCO", 3, path(0, 1, 2))
	pathsAre(t, l[:2], at(190), "JFK", "FCO", 3)
	pathsAre(t, l, at(1540), "JFK", "FCO", 3, path(0, 1, 2))
	pathsAre(t, l, at(1541), "JFK", "FCO", 3)
	pathsAre(t, l, at(1541), "LHR", "FCO", 3, path(1, 2))
	// The segments can be in any order in the list, and depart at any time.
	pathsAre(t, nil, journey(ba("CDG", "FCO", farFuture-60, farFuture), ba("LHR", "CDG", farFuture-200, farFuture-120), ba("JFK", "LHR", farPast, farFuture-260)), "JFK", "FCO", 3, path(2, 1, 0))
	pathsAre(t, nil, journey(ba("JFK", "LHR", farPast, farPast), ba("LHR", "CDG", farPast+60, farFuture)), "JFK", "CDG", 3, path(0, 1))
	// Also segments that take no time fit, and times that no right list has.
	pathsAre(t, nil, journey(ba("JFK", "LHR", 500, 100), ba("LHR", "CDG", 160, 90)), "JFK", "CDG", 3, path(0, 1))
	pathsAre(t, times(ct("", "", "", -70)), journey(ba("JFK", "LHR", 0, 100), ba("LHR", "CDG", 30, 90)), "JFK", "CDG", 3, path(0, 1))
}

func TestPathsOfCodesThatAreNone(t *testing.T) {
	pathsAre(t, nil, journey(ba("", "x", 0, 100), ba("x", "LON", 200, 300), ba("", "LON", 0, 10)), "", "LON", 3, path(2), path(0, 1))
	pathsAre(t, nil, journey(ba("LHR", "CDG", 0, 100)), "LON", "PAR", 3)
	pathsAre(t, nil, journey(ba("LHR", "CDG", 0, 100)), "", "", 3)
	pathsAre(t, nil, journey(ba("LHR", "CDG", 0, 100)), "LHR", "", 3)
	pathsAre(t, nil, journey(ba("LHR", "CDG", 0, 100)), "", "CDG", 3)
}

func TestOrderOfPaths(t *testing.T) {
	// The arrival comes first, whatever the number of segments, the departure or the indices.
	segs := journey(ba("JFK", "CDG", 50, 601), ba("JFK", "LHR", 0, 100), ba("LHR", "CDG", 500, 600), ba("JFK", "FCO", 0, 10), ba("FCO", "LHR", 70, 80), ba("LHR", "CDG", 140, 599))
	pathsAre(t, nil, segs, "JFK", "CDG", 3, path(3, 4, 5), path(1, 2), path(3, 4, 2), path(0))
	// Then the number of segments.
	segs = journey(ba("JFK", "FCO", 0, 10), ba("FCO", "LHR", 70, 80), ba("LHR", "CDG", 500, 600), ba("JFK", "LHR", 0, 100), ba("JFK", "CDG", 50, 600))
	pathsAre(t, nil, segs, "JFK", "CDG", 3, path(4), path(3, 2), path(0, 1, 2))
	// Then the indices: the first different one decides.
	segs = journey(ba("LHR", "CDG", 300, 600), ba("JFK", "LHR", 9, 100), ba("LHR", "CDG", 200, 600), ba("JFK", "LHR", 5, 50), ba("JFK", "CDG", 0, 600), ba("JFK", "CDG", 0, 600))
	pathsAre(t, nil, segs, "JFK", "CDG", 3, path(4), path(5), path(1, 0), path(1, 2), path(3, 0), path(3, 2))
	segs = journey(ba("FCO", "CDG", 900, 999), ba("LHR", "FCO", 500, 600), ba("JFK", "LHR", 0, 100), ba("LHR", "FCO", 500, 600), ba("FCO", "CDG", 900, 999), ba("JFK", "LHR", 0, 100))
	pathsAre(t, nil, segs, "JFK", "CDG", 3, path(2, 1, 0), path(2, 1, 4), path(2, 3, 0), path(2, 3, 4), path(5, 1, 0), path(5, 1, 4), path(5, 3, 0), path(5, 3, 4))
	// Indices are numbers, not texts.
	segs = slices.Repeat(journey(ba("JFK", "CDG", 0, 100)), 12)
	pathsAre(t, nil, segs, "JFK", "CDG", 3, path(0), path(1), path(2), path(3), path(4), path(5), path(6), path(7), path(8), path(9), path(10), path(11))
	// Arrivals at the bounds.
	segs = journey(ba("JFK", "CDG", 0, farFuture), ba("JFK", "CDG", 0, farPast), ba("JFK", "CDG", 0, 0))
	pathsAre(t, nil, segs, "JFK", "CDG", 1, path(1), path(2), path(0))
}

// chain returns so many equal segments from JFK to LHR, from there to FCO, from there to CDG, from JFK to FCO and from JFK to CDG.
func chain(first, middle, last, long, direct int) []api.Seg {
	segs := slices.Repeat(journey(ba("JFK", "LHR", 0, 100)), first)
	segs = append(segs, slices.Repeat(journey(ba("LHR", "FCO", 200, 300)), middle)...)
	segs = append(segs, slices.Repeat(journey(ba("FCO", "CDG", 400, 500)), last)...)
	segs = append(segs, slices.Repeat(journey(ba("JFK", "FCO", 0, 300)), long)...)
	return append(segs, slices.Repeat(journey(ba("JFK", "CDG", 0, 500)), direct)...)
}

func TestPathsOfManyJourneys(t *testing.T) {
	for _, x := range []struct {
		segs       []api.Seg
		most, want int
	}{
		{chain(0, 0, 0, 0, 1024), 1, 1024}, {chain(0, 0, 0, 0, 1024), 3, 1024}, {chain(0, 0, 0, 0, 1025), 1, -1}, {chain(0, 0, 0, 0, 1025), 3, -1}, {chain(0, 0, 0, 0, 3000), 1, -1}, {chain(2, 2, 2, 2, 1025), 3, -1}, {chain(2, 2, 2, 2, 3000), 2, -1},
		{chain(0, 0, 32, 32, 0), 2, 1024}, {chain(0, 0, 32, 32, 0), 3, 1024}, {chain(0, 0, 32, 32, 0), 1, 0},
		{chain(0, 0, 1, 1025, 0), 2, -1}, {chain(0, 0, 1025, 1, 0), 2, -1}, {chain(0, 0, 1025, 1, 0), 1, 0}, {chain(0, 0, 25, 41, 0), 3, -1},
		{chain(16, 8, 8, 0, 0), 3, 1024}, {chain(16, 8, 8, 0, 1), 3, -1}, {chain(5, 5, 41, 0, 0), 3, -1}, {chain(1025, 1, 1, 0, 0), 3, -1}, {chain(1, 1025, 1, 0, 0), 3, -1}, {chain(1, 1, 1025, 0, 0), 3, -1}, {chain(1025, 1, 1, 0, 0), 2, 0},
		{chain(10, 10, 10, 2, 4), 3, 1024}, {chain(10, 10, 10, 2, 5), 3, -1}, {chain(10, 10, 10, 2, 5), 2, 25}, {chain(10, 10, 10, 2, 5), 1, 5},
		{chain(1, 1, 1, 1022, 1), 3, 1024}, {chain(1, 1, 1, 1022, 2), 3, -1}, {chain(1, 1, 1, 1022, 2), 2, 1024}, {chain(1, 1, 1, 0, 1024), 3, -1}, {chain(1, 1, 1, 0, 1024), 2, 1024},
	} {
		if x.want < 0 {
			pathsFail(t, x.segs, "JFK", "CDG", x.most, api.ErrSize)
			// The other error comes first.
			pathsFail(t, x.segs, "JFK", "CDG", 0, api.ErrArg)
			pathsFail(t, x.segs, "JFK", "CDG", 4, api.ErrArg)
			continue
		}
		if got, e := Paths(nil, x.segs, "JFK", "CDG", x.most); e != api.OK || len(got) != x.want {
			t.Errorf("there are %d journeys, %d, not %d", len(got), e, x.want)
		}
	}
}

func TestPathsOfManyJourneysInTheirOrder(t *testing.T) {
	got, e := Paths(nil, chain(10, 10, 10, 2, 4), "JFK", "CDG", 3)
	if e != api.OK || len(got) != 1024 {
		t.Fatal(len(got), e)
	}
	var want [][]int
	for i := range 4 {
		want = append(want, path(32+i))
	}
	for i := range 2 {
		for k := range 10 {
			want = append(want, path(30+i, 20+k))
		}
	}
	for i := range 1000 {
		want = append(want, path(i/100, 10+i/10%10, 20+i%10))
	}
	if !slices.EqualFunc(got, want, slices.Equal) {
		t.Error(got)
	}
}

// With so many segments there is no time to look at all triples of them, nor for all journeys if there are too many.
func TestPathsOfManySegments(t *testing.T) {
	segs := chain(3000, 3000, 0, 0, 0)
	for range 3000 {
		segs = append(segs, ba("FCO", "CDG", 359, 500))
	}
	pathsAre(t, nil, segs, "JFK", "CDG", 3)
	pathsAre(t, nil, append(segs, ba("FCO", "CDG", 300, 500), ba("JFK", "CDG", 300, 501)), "JFK", "CDG", 3, path(9001))
	pathsFail(t, chain(3000, 3000, 3000, 0, 0), "JFK", "CDG", 3, api.ErrSize)
	pathsFail(t, chain(0, 0, 30000, 30000, 0), "JFK", "CDG", 2, api.ErrSize)
	// Most of these are at other airports.
	next := numbers(6)
	var many []api.Seg
	for range 200000 {
		dep := next(20000)
		many = append(many, ba(strconv.Itoa(next(1000)), strconv.Itoa(next(1000)), dep, dep+30))
	}
	got, e := Paths(nil, many, "7", "11", 3)
	if e != api.OK || len(got) < 20 || !slices.EqualFunc(got, journeysBetween(nil, many, "7", "11"), slices.Equal) {
		t.Error(len(got), e)
	}
}

// journeysBetween returns the journeys of up to three segments, as all that lead on from the first ones.
func journeysBetween(l []api.Connect, segs []api.Seg, from, to string) [][]int {
	departing := make(map[string][]int)
	for i, s := range segs {
		departing[s.From] = append(departing[s.From], i)
	}
	var all [][]int
	for _, a := range departing[from] {
		all = append(all, path(a))
		for _, b := range departing[segs[a].To] {
			all = append(all, path(a, b))
			for _, c := range departing[segs[b].To] {
				if segs[c].To == to {
					all = append(all, path(a, b, c))
				}
			}
		}
	}
	all = slices.DeleteFunc(all, func(path []int) bool { return !isJourney(l, segs, path, from, to) })
	return inOrder(segs, all)
}

// isJourney reports whether indices are a journey, by the definition.
func isJourney(l []api.Connect, segs []api.Seg, path []int, from, to string) bool {
	if segs[path[0]].From != from || segs[path[len(path)-1]].To != to {
		return false
	}
	airports := map[string]bool{from: true}
	for i, x := range path {
		if i > 0 && !fitting(l, segs[path[i-1]], segs[x]) || airports[segs[x].To] || slices.Contains(path[:i], x) {
			return false
		}
		airports[segs[x].To] = true
	}
	return true
}

// inOrder sorts journeys, by the definition.
func inOrder(segs []api.Seg, all [][]int) [][]int {
	slices.SortFunc(all, func(a, b []int) int {
		x, y := segs[a[len(a)-1]].Arr, segs[b[len(b)-1]].Arr
		switch {
		case x != y:
			return cmp.Compare(x, y)
		case len(a) != len(b):
			return len(a) - len(b)
		}
		for i := range a {
			if a[i] != b[i] {
				return a[i] - b[i]
			}
		}
		return 0
	})
	return all
}

// journeys returns all journeys, by the definition: of all lists of indices, those that are journeys, in their order.
func journeys(l []api.Connect, segs []api.Seg, from, to string, most int) [][]int {
	var all [][]int
	for a := range segs {
		lists := [][]int{path(a)}
		for b := range segs {
			if most >= 2 {
				lists = append(lists, path(a, b))
			}
			for c := range segs {
				if most >= 3 {
					lists = append(lists, path(a, b, c))
				}
			}
		}
		for _, x := range lists {
			if isJourney(l, segs, x, from, to) {
				all = append(all, x)
			}
		}
	}
	return inOrder(segs, all)
}

// compare fails if Paths does not return what the definition says, from each airport to each other. It adds the numbers of segments of all journeys.
func compare(t *testing.T, l []api.Connect, segs []api.Seg, seen map[int]int) {
	t.Helper()
	airports := []string{"LHR", "CDG", "JFK", "FCO", "LGW"}
	for _, from := range airports {
		for _, to := range airports {
			for most := 1; most <= 3; most++ {
				got, e := Paths(l, segs, from, to, most)
				want := journeys(l, segs, from, to, most)
				if e != api.OK || !slices.EqualFunc(got, want, slices.Equal) {
					t.Fatalf("Paths(%v, %v, %q, %q, %d) = %v, %d, not %v", l, segs, from, to, most, got, e, want)
				}
				for _, x := range got {
					seen[len(x)]++
				}
			}
		}
	}
}

func TestPathsOfThreeSegmentsAreAsDefined(t *testing.T) {
	var all []api.Seg
	for i, from := range []string{"FCO", "LHR", "CDG", "LHR", "JFK"} {
		for k, to := range []string{"LHR", "CDG", "JFK"} {
			all = append(all, ba(from, to, 100*i, 100*i+30+k%2))
		}
	}
	seen := make(map[int]int)
	upToThree(all, func(segs []api.Seg) { compare(t, nil, segs, seen) })
	if seen[1] < 1000 || seen[2] < 1000 || seen[3] < 20 {
		t.Error(seen)
	}
}

// mixed returns segments and connecting times, such that many of the segments fit.
func mixed(next func(n int) int, segments int) ([]api.Connect, []api.Seg) {
	var l []api.Connect
	for range next(5) {
		c := kit()[next(27)]
		c.Minutes = next(300)
		l = append(l, c)
	}
	airports, carriers := []string{"LHR", "CDG", "JFK", "FCO", "LGW"}, []string{"BA", "AF", "U2"}
	var segs []api.Seg
	for range segments {
		dep := next(16) * 100
		// Arrivals that are equal are not rare.
		segs = append(segs, by(carriers[next(3)], airports[next(5)], airports[next(5)], dep, dep+10+next(3)*90))
	}
	return l, segs
}

func TestPathsOfMixedSegmentsAreAsDefined(t *testing.T) {
	next := numbers(4)
	seen := make(map[int]int)
	for range 600 {
		l, segs := mixed(next, next(14))
		// Some go back in time.
		for i := range segs {
			if next(6) == 0 {
				segs[i].Arr = segs[i].Dep - next(500)
			}
		}
		compare(t, l, segs, seen)
	}
	if seen[1] < 1000 || seen[2] < 1000 || seen[3] < 100 {
		t.Error(seen)
	}
}

// P11.4

func TestPathsAreValidAndOrdered(t *testing.T) {
	next := numbers(5)
	p := world()
	seen := make(map[int]int)
	for range 300 {
		l, segs := mixed(next, 30)
		for _, x := range [][2]string{{"LHR", "CDG"}, {"JFK", "FCO"}, {"LGW", "LHR"}, {"CDG", "JFK"}} {
			all, e := Paths(l, segs, x[0], x[1], 3)
			if e != api.OK {
				t.Fatal(e)
			}
			for _, indices := range all {
				var segments []api.Seg
				for _, i := range indices {
					segments = append(segments, segs[i])
				}
				if e := Valid(p, l, segments); e != api.OK {
					t.Fatalf("Valid(.., %v, %v) = %d", l, segments, e)
				}
				ordered(t, segments)
				seen[len(segments)]++
			}
		}
	}
	if seen[1] < 1000 || seen[2] < 1000 || seen[3] < 500 {
		t.Error(seen)
	}
}

// ordered fails if the departures and arrivals of segments are not ordered.
func ordered(t *testing.T, segs []api.Seg) {
	t.Helper()
	now := math.MinInt
	for _, s := range segs {
		if s.Dep < now || s.Arr <= s.Dep {
			t.Errorf("the times of %v are not ordered", segs)
		}
		now = s.Arr
	}
}

// Rules R1, R2, R4 and R6

// results calls all functions, and returns their results.
func results(p api.Places, l []api.Connect, segs []api.Seg) []any {
	all := []any{Check(l), Minutes(l, "LHR", "BA", "AF"), Valid(p, l, segs)}
	for _, a := range segs[:min(len(segs), 20)] {
		for _, b := range segs[:min(len(segs), 20)] {
			all = append(all, Fits(l, a, b))
		}
	}
	for most := range 5 {
		for _, x := range [][2]string{{"LHR", "CDG"}, {"JFK", "CDG"}, {"JFK", "JFK"}, {"", ""}} {
			paths, e := Paths(l, segs, x[0], x[1], most)
			all = append(all, paths, e)
		}
	}
	return all
}

// oddSegs returns lists of segments of which most are not right.
func oddSegs() [][]api.Seg {
	odd := journey(api.Seg{}, ba("JFK", "LHR", math.MinInt, math.MaxInt), ba("LHR", "CDG", math.MaxInt, math.MinInt), ba("LHR", "LHR", 0, 0), ba("", "", math.MaxInt, math.MaxInt), by(strings.Repeat("x", 9999), "JFK", "CDG", 0, 1))
	return [][]api.Seg{nil, long(), odd, append(long(), odd...), chain(2, 2, 2, 2, 2), slices.Repeat(odd[:3], 4)}
}

// oddPlaces returns places that are not right, besides right ones.
func oddPlaces() []api.Places {
	zone := api.Zone{Offset: math.MaxInt, Shifts: []api.Shift{{At: math.MaxInt, Offset: math.MaxInt}, {At: math.MinInt, Offset: math.MinInt}}}
	return []api.Places{{}, world(), {Airports: make([]api.Airport, 3)}, {Airports: []api.Airport{{Code: "LHR", Zone: zone}, {Code: "JFK"}, {Code: "CDG", City: "JFK"}, {Code: "CDG", Zone: zone}}}}
}

func TestNothingPanicsAndResultsAreTheSameAgain(t *testing.T) {
	for _, p := range oddPlaces() {
		for _, segs := range oddSegs() {
			for _, l := range [][]api.Connect{nil, kit(), oddTimes(), make([]api.Connect, 5)} {
				if a, b := results(p, l, segs), results(p, l, segs); !reflect.DeepEqual(a, b) {
					t.Fatalf("%v and %v", a, b)
				}
			}
		}
	}
}

// spare returns a copy of a list that has memory behind its end, which is a copy of its elements.
func spare[T any](l []T) []T { return append(slices.Clone(l), l...)[:len(l)] }

// memory returns a copy of all that can be reached from arguments, with the memory behind the ends of their lists.
func memory(p api.Places, l []api.Connect, segs []api.Seg) []any {
	airports := slices.Clone(p.Airports[:cap(p.Airports)])
	for i := range airports {
		airports[i].Zone.Shifts = slices.Clone(airports[i].Zone.Shifts[:cap(airports[i].Zone.Shifts)])
	}
	return []any{airports, slices.Clone(p.Distances[:cap(p.Distances)]), slices.Clone(l[:cap(l)]), slices.Clone(segs[:cap(segs)])}
}

func TestArgumentsAreNotModified(t *testing.T) {
	for _, list := range append(oddSegs(), chain(0, 0, 0, 0, 1025)) {
		for _, given := range [][]api.Connect{nil, kit(), oddTimes(), preferred()} {
			p, l, segs := world(), spare(given), spare(list)
			p.Airports, p.Distances = spare(p.Airports), spare(p.Distances)
			before := memory(p, l, segs)
			results(p, l, segs)
			if after := memory(p, l, segs); !reflect.DeepEqual(before, after) {
				t.Fatalf("an argument was modified: %v, %v", before, after)
			}
		}
	}
}

func TestResultsAreNewMemory(t *testing.T) {
	l, segs := times(ct("lhr", "", "", 45), ct("LHR", "", "", 2000)), chain(3, 3, 3, 3, 3)
	before, first := memory(api.Places{}, l, segs), results(world(), l, segs)
	clear(Check(l))
	paths, _ := Paths(nil, segs, "JFK", "CDG", 3)
	want := slices.Clone(paths)
	for i := range paths {
		want[i] = slices.Clone(paths[i])
	}
	for i := range paths {
		// What is appended to a journey, or changed in it, is not seen in the others.
		_ = append(paths[i], -1, -1, -1, -1)
		clear(paths[i])
		if !slices.EqualFunc(paths[i+1:], want[i+1:], slices.Equal) {
			t.Fatalf("journey %d shares memory with a later one", i)
		}
	}
	if !reflect.DeepEqual(before, memory(api.Places{}, l, segs)) || !reflect.DeepEqual(first, results(world(), l, segs)) {
		t.Error("changing a result changed an argument or another result")
	}
}
