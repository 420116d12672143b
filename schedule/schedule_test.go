package schedule

import (
	"math"
	"reflect"
	"slices"
	"sort"
	"strconv"
	"strings"
	"testing"

	"airline/api"
	"airline/flight"
	"airline/period"
	"airline/places"
)

const (
	// newYear is 2026-01-01, a Thursday.
	newYear = 9497
	// springEU is 2026-03-29, the Sunday on which summer time begins in London and Paris.
	springEU = 9584
	lastDay  = api.MaxDay - 1
	everyDay = 127
)

// world returns airports in zones with and without summer time, and at the edges of the offsets.
func world() api.Places {
	summer := func(offset int) api.Zone {
		return api.Zone{Offset: offset, Shifts: []api.Shift{{At: springEU*1440 + 60, Offset: offset + 60}, {At: 9794*1440 + 60, Offset: offset}}}
	}
	return api.Places{
		Airports: []api.Airport{
			{Code: "LHR", City: "LON", Country: "GB", Zone: summer(0)}, {Code: "LGW", City: "LON", Country: "GB", Zone: summer(0)},
			{Code: "CDG", City: "PAR", Country: "FR", Zone: summer(60)}, {Code: "JFK", City: "NYC", Country: "US", Zone: api.Zone{Offset: -300}},
			{Code: "SFO", City: "SFO", Country: "US", Zone: api.Zone{Offset: -480}}, {Code: "AKL", City: "AKL", Country: "NZ", Zone: api.Zone{Offset: 840}},
			{Code: "HNL", City: "HNL", Country: "US", Zone: api.Zone{Offset: -840}},
		},
		Distances: []api.Distance{{From: "LON", To: "PAR", Miles: 214}},
	}
}

// codes returns the airports of world, and texts that are none.
func codes() []string {
	return []string{"LHR", "LGW", "CDG", "JFK", "SFO", "AKL", "HNL", "LON", "XXX", "", "lhr", "LHRX"}
}

// leg returns a leg, to write it shortly.
func leg(from, to string, dep, arr int) api.Leg {
	return api.Leg{From: from, To: to, Dep: dep, Arr: arr, Equip: "777"}
}

// days returns a period with every weekday, and some one with given ones.
func days(from, to int) api.Period { return api.Period{From: from, To: to, Days: everyDay} }

func some(from, to, weekdays int) api.Period { return api.Period{From: from, To: to, Days: weekdays} }

// ba returns the flight BA 117 with one, and long one with three legs.
func ba(p api.Period) api.Flight {
	return api.Flight{Carrier: "BA", Number: 117, Period: p, Legs: []api.Leg{leg("LHR", "JFK", 500, 700)}}
}

func long(p api.Period) api.Flight {
	f := ba(p)
	f.Legs = []api.Leg{leg("CDG", "LHR", 400, 420), leg("LHR", "JFK", 500, 700), leg("JFK", "SFO", 800, 1000)}
	f.Legs[0].Equip = "320"
	return f
}

// changed returns a flight with a change, and does not modify the flight itself.
func changed(f api.Flight, change func(f *api.Flight)) api.Flight {
	f.Legs = slices.Clone(f.Legs)
	change(&f)
	return f
}

// called returns a flight under another carrier and number.
func called(carrier string, number int, f api.Flight) api.Flight {
	return changed(f, func(f *api.Flight) { f.Carrier, f.Number = carrier, number })
}

// timetable returns flights, to write them shortly.
func timetable(l ...api.Flight) []api.Flight { return l }

// badPeriods are periods that are not valid, though most of them have bounds on both sides of newYear.
func badPeriods() []api.Period {
	return []api.Period{
		{}, days(-1, newYear), days(newYear+1, newYear-1), days(newYear, api.MaxDay), days(math.MinInt, math.MaxInt), days(newYear-400, newYear+400),
		some(newYear-9, newYear+9, 0), some(newYear-9, newYear+9, 128), some(newYear-9, newYear+9, 255), some(newYear-9, newYear+9, -1), some(newYear, newYear, 1<<32+8),
	}
}

// oddDays are no days. Some of them are newYear in 16 or 32 bits.
func oddDays() []int {
	return []int{-1, -newYear, api.MaxDay, 1<<16 + newYear, 1<<32 + newYear, -1<<32 + newYear, math.MaxInt, math.MinInt, math.MinInt + newYear}
}

// share reports whether two periods have a day in common, by trying all days.
func share(a, b api.Period) bool {
	for day := a.From; day <= a.To && period.Check(a) == api.OK; day++ {
		if period.Has(a, day) && period.Has(b, day) {
			return true
		}
	}
	return false
}

// P8.1

// checkIs fails if Check does not return these violations, which are written like "4 flight 1 legs", in this order.
func checkIs(t *testing.T, l []api.Flight, want ...string) {
	t.Helper()
	got := []string{}
	for _, x := range Check(world(), l) {
		got = append(got, strconv.Itoa(int(x.Err))+" "+x.At)
	}
	if !slices.Equal(got, want) {
		t.Errorf("Check(%v) = %q, not %q", l, got, want)
	}
}

func TestCheckOfExample(t *testing.T) {
	f := ba(days(newYear, newYear+2))
	checkIs(t, timetable(f, changed(f, func(f *api.Flight) { f.Legs = nil })), "4 flight 1 legs", "6 flight 1")
}

func TestCheckOfRightTimetables(t *testing.T) {
	checkIs(t, nil)
	checkIs(t, timetable())
	checkIs(t, timetable(ba(days(newYear, newYear))))
	checkIs(t, timetable(long(days(springEU-9, springEU+9))))
	checkIs(t, timetable(ba(days(0, 799)), long(days(800, 1599)), ba(days(lastDay-799, lastDay))))
	checkIs(t, timetable(ba(days(newYear, newYear+9)), called("BA", 118, long(days(newYear, newYear+9))), called("AF", 117, ba(days(newYear, newYear+9)))))
}

func TestCheckOfDays(t *testing.T) {
	for _, c := range []struct {
		a, b  api.Period
		twice bool
	}{
		// No day in common: after, before, the day after, the day before.
		{days(newYear, newYear+2), days(newYear+5, newYear+9), false}, {days(newYear+5, newYear+9), days(newYear, newYear+2), false},
		{days(newYear, newYear+2), days(newYear+3, newYear+9), false}, {days(newYear+3, newYear+9), days(newYear, newYear+2), false},
		{days(newYear, newYear), days(newYear+1, newYear+1), false}, {days(newYear+1, newYear+1), days(newYear, newYear), false},
		{days(newYear, newYear), days(newYear+7, newYear+7), false}, {days(0, 0), days(lastDay, lastDay), false},
		// One day: the last, the first, one in the middle, the only one, the first and the last of all days.
		{days(newYear, newYear+2), days(newYear+2, newYear+9), true}, {days(newYear+2, newYear+9), days(newYear, newYear+2), true},
		{days(newYear, newYear+9), days(newYear+4, newYear+4), true}, {days(newYear+4, newYear+4), days(newYear, newYear+9), true},
		{days(newYear, newYear), days(newYear, newYear), true}, {days(0, 0), days(0, 0), true}, {days(lastDay, lastDay), days(lastDay, lastDay), true},
		{some(newYear, newYear+13, 64), some(newYear+3, newYear+9, 65), true}, {days(0, 799), days(799, 1598), true},
		// All days: of both, of one.
		{days(newYear, newYear+9), days(newYear, newYear+9), true}, {days(newYear, newYear+9), days(newYear-9, newYear+19), true},
		{days(0, 799), days(0, 799), true}, {some(newYear, newYear+9, 8), some(newYear, newYear+9, 24), true},
		// The periods overlap, without a weekday in common.
		{some(newYear, newYear+9, 63), some(newYear, newYear+9, 64), false}, {some(newYear, newYear+700, 85), some(newYear+1, newYear+701, 42), false},
		{some(newYear, newYear+9, 1), some(newYear+4, newYear+4, everyDay), true}, {some(newYear, newYear+9, 1), days(newYear+5, newYear+5), false},
		// They have a weekday in common, but not on the days in common.
		{some(newYear, newYear+6, 3), some(newYear+6, newYear+13, 1), false}, {some(newYear, newYear+7, 8), some(newYear+1, newYear+6, 8), false},
		// A period without days. 9498 is a Friday.
		{some(newYear, newYear+3, 1), days(newYear, newYear+3), false}, {days(newYear, newYear+3), some(newYear, newYear+3, 7), false}, {some(9498, 9498, 8), some(9498, 9498, 8), false},
	} {
		var want []string
		if c.twice {
			want = []string{"6 flight 1"}
		}
		checkIs(t, timetable(ba(c.a), ba(c.b)), want...)
		checkIs(t, timetable(long(c.a), ba(c.b)), want...)
		checkIs(t, timetable(ba(c.b), long(c.a)), want...)
		// The same days of others do not matter.
		for _, other := range []api.Flight{called("AF", 117, ba(c.b)), called("BA", 118, ba(c.b)), called("BB", 7, ba(c.b)), called("BA", 1, ba(c.b)), called("B1", 17, ba(c.b))} {
			checkIs(t, timetable(ba(c.a), other))
			checkIs(t, timetable(other, ba(c.a)))
		}
		if share(c.a, c.b) != c.twice {
			t.Errorf("%v and %v are wrong in this test", c.a, c.b)
		}
	}
}

func TestCheckOfThreeFlights(t *testing.T) {
	early, late := days(newYear, newYear+4), days(newYear+5, newYear+9)
	both := days(newYear+4, newYear+5)
	// The third one clashes with both others, with the first alone, with the second alone, with none.
	checkIs(t, timetable(ba(early), ba(late), ba(both)), "6 flight 2")
	checkIs(t, timetable(ba(early), ba(late), ba(days(newYear+4, newYear+4))), "6 flight 2")
	checkIs(t, timetable(ba(early), ba(late), ba(days(newYear+9, newYear+10))), "6 flight 2")
	checkIs(t, timetable(ba(early), ba(late), ba(days(newYear+10, newYear+10))))
	checkIs(t, timetable(ba(early), ba(both), ba(late)), "6 flight 1", "6 flight 2")
	checkIs(t, timetable(ba(both), ba(early), ba(late)), "6 flight 1", "6 flight 2")
	checkIs(t, timetable(ba(early), ba(early), ba(early)), "6 flight 1", "6 flight 2")
	checkIs(t, timetable(ba(early), ba(early), ba(late)), "6 flight 1")
	// A flight between the two that clash does not matter, nor one that clashes with nothing behind them.
	checkIs(t, timetable(ba(early), called("AF", 117, ba(early)), ba(early)), "6 flight 2")
	checkIs(t, timetable(ba(early), ba(early), called("AF", 117, ba(early))), "6 flight 1")
	checkIs(t, timetable(called("AF", 117, ba(early)), ba(early), called("AF", 117, ba(both))), "6 flight 2")
}

func TestCheckOfViolationsOfFlights(t *testing.T) {
	week := days(newYear, newYear+6)
	wrong := changed(long(week), func(f *api.Flight) { f.Legs[2].Equip, f.Legs[1].Dep = "77", -1441 })
	late := changed(ba(week), func(f *api.Flight) { f.Legs[0].Arr = 200 })
	checkIs(t, timetable(wrong), "2 flight 0 leg 1", "5 flight 0 leg 2")
	checkIs(t, timetable(late), "13 flight 0 day 2026-01-01")
	// The violations of a flight are ahead of ErrTwice of this flight, and of all of the next one.
	checkIs(t, timetable(ba(week), ba(week), called("AF", 117, wrong)), "6 flight 1", "2 flight 2 leg 1", "5 flight 2 leg 2")
	checkIs(t, timetable(called("AF", 117, wrong), ba(week), ba(week)), "2 flight 0 leg 1", "5 flight 0 leg 2", "6 flight 2")
	checkIs(t, timetable(ba(week), wrong, late), "2 flight 1 leg 1", "5 flight 1 leg 2", "6 flight 1", "13 flight 2 day 2026-01-01", "6 flight 2")
	// A flight that is not valid clashes all the same, with an earlier and with a later one.
	checkIs(t, timetable(late, ba(week)), "13 flight 0 day 2026-01-01", "6 flight 1")
	checkIs(t, timetable(wrong, late), "2 flight 0 leg 1", "5 flight 0 leg 2", "13 flight 1 day 2026-01-01", "6 flight 1")
	none := api.Flight{Period: week}
	checkIs(t, timetable(none, none), "5 flight 0 carrier", "2 flight 0 number", "4 flight 0 legs", "5 flight 1 carrier", "2 flight 1 number", "4 flight 1 legs", "6 flight 1")
	checkIs(t, timetable(called("", -1, ba(week)), called("", -1, ba(week)), called("", -2, ba(week)), called("x", -1, ba(week))),
		"5 flight 0 carrier", "2 flight 0 number", "5 flight 1 carrier", "2 flight 1 number", "6 flight 1", "5 flight 2 carrier", "2 flight 2 number", "5 flight 3 carrier", "2 flight 3 number")
	// Names that are equal only if they are cut, or written without the space.
	checkIs(t, timetable(ba(week), called("BA1", 17, ba(week)), called("BA", 1<<32+117, ba(week)), called("ba", 117, ba(week))),
		"5 flight 1 carrier", "2 flight 2 number", "5 flight 3 carrier")
	// A period that is not valid has no days, and so does not clash.
	for _, p := range badPeriods() {
		e := strconv.Itoa(int(period.Check(p)))
		checkIs(t, timetable(ba(week), ba(p)), e+" flight 1 period")
		checkIs(t, timetable(ba(p), ba(p), ba(week)), e+" flight 0 period", e+" flight 1 period")
	}
}

func TestCheckOfManyFlights(t *testing.T) {
	// One number, a flight a day: all days but the last one.
	var l []api.Flight
	for day := range lastDay {
		l = append(l, ba(days(day, day)))
	}
	checkIs(t, l)
	if got, want := Check(world(), append(l, ba(days(lastDay, lastDay)), ba(days(0, 0)))), []api.Fault{{Err: api.ErrTwice, At: "flight 36525"}}; !slices.Equal(got, want) {
		t.Error(got)
	}
	// The index of the flight is decimal, and counts all flights.
	l = nil
	for i := range 120 {
		l = append(l, called("BA", i%60+1, ba(days(newYear, newYear))))
	}
	var want []string
	for i := 60; i < 120; i++ {
		want = append(want, "6 flight "+strconv.Itoa(i))
	}
	checkIs(t, l, want...)
}

// violations returns the violations of a timetable, by the definition.
func violations(p api.Places, l []api.Flight) []api.Fault {
	var faults []api.Fault
	for i, f := range l {
		at := "flight " + strconv.Itoa(i)
		for _, x := range flight.Check(p, f) {
			faults = append(faults, api.Fault{Err: x.Err, At: at + " " + x.At})
		}
		twice := false
		for _, g := range l[:i] {
			_, meets := period.Meet(g.Period, f.Period)
			twice = twice || meets && g.Carrier == f.Carrier && g.Number == f.Number
		}
		if twice {
			faults = append(faults, api.Fault{Err: api.ErrTwice, At: at})
		}
	}
	return faults
}

// kit returns flights of three names with different days, legs and violations, of which lists are made.
func kit() []api.Flight {
	week := days(newYear, newYear+6)
	l := []api.Flight{
		ba(week), long(week), ba(days(newYear+6, newYear+8)), long(days(newYear+7, newYear+9)), ba(some(newYear, newYear+9, 63)), long(some(newYear-3, newYear+9, 64)), long(days(newYear, newYear)),
		ba(some(newYear, newYear+2, 4)), ba(days(newYear+1, newYear)), changed(ba(week), func(f *api.Flight) { f.Legs = nil }), changed(ba(some(newYear, newYear+9, 9)), func(f *api.Flight) { f.Legs[0].Arr = 0 }),
		called("AF", 117, ba(week)), called("AF", 117, long(days(newYear+6, newYear+9))), called("BA", 118, ba(week)), called("BA", 118, ba(days(newYear+9, newYear+9))),
	}
	return l
}

// lists calls f with all lists of up to three flights of kit.
func lists(f func(l []api.Flight)) {
	f(nil)
	for _, a := range kit() {
		f(timetable(a))
		for _, b := range kit() {
			f(timetable(a, b))
			for _, c := range kit() {
				f(timetable(a, b, c))
			}
		}
	}
}

func TestCheckIsAsDefined(t *testing.T) {
	p := world()
	right, twice := 0, 0
	lists(func(l []api.Flight) {
		got, want := Check(p, l), violations(p, l)
		if !slices.Equal(got, want) {
			t.Fatalf("Check(%v) = %v, not %v", l, got, want)
		}
		if len(want) == 0 {
			right++
		} else if want[len(want)-1].Err == api.ErrTwice {
			twice++
		}
	})
	if right < 100 || twice < 100 {
		t.Errorf("%d timetables are right, and %d end with ErrTwice", right, twice)
	}
}

// P8.2

// onIs fails if On does not find a flight on a day (the zero flight is none).
func onIs(t *testing.T, l []api.Flight, carrier string, number, day int, want api.Flight, ok bool) {
	t.Helper()
	if f, found := On(l, carrier, number, day); found != ok || !flight.Same(f, want) {
		t.Errorf("On(%v, %q, %d, %d) = %v, %v, not %v, %v", l, carrier, number, day, f, found, want, ok)
	}
}

func TestOnOfDays(t *testing.T) {
	none := api.Flight{}
	f := ba(days(newYear, newYear+2))
	l := timetable(f)
	for day, ok := range map[int]bool{newYear - 7: false, newYear - 1: false, newYear: true, newYear + 1: true, newYear + 2: true, newYear + 3: false, newYear + 7: false} {
		if ok {
			onIs(t, l, "BA", 117, day, f, true)
		} else {
			onIs(t, l, "BA", 117, day, none, false)
		}
	}
	// Sundays and Mondays: 9500 is a Sunday.
	g := long(some(newYear, newYear+11, 65))
	for day := newYear - 3; day < newYear+15; day++ {
		if ok := day == 9500 || day == 9501 || day == 9507 || day == 9508; ok {
			onIs(t, timetable(g), "BA", 117, day, g, true)
		} else {
			onIs(t, timetable(g), "BA", 117, day, none, false)
		}
	}
	for _, day := range oddDays() {
		onIs(t, l, "BA", 117, day, none, false)
	}
	// The first and the last day of all.
	l = timetable(ba(days(0, 0)), long(days(lastDay, lastDay)))
	onIs(t, l, "BA", 117, 0, l[0], true)
	onIs(t, l, "BA", 117, lastDay, l[1], true)
	onIs(t, l, "BA", 117, 1, none, false)
	// No day is in a period that is not valid.
	for _, p := range badPeriods() {
		for _, day := range []int{p.From, p.To, 0, newYear} {
			onIs(t, timetable(ba(p)), "BA", 117, day, none, false)
			onIs(t, timetable(ba(p), ba(days(newYear, newYear))), "BA", 117, newYear, ba(days(newYear, newYear)), true)
		}
	}
}

func TestOnOfNames(t *testing.T) {
	week := days(newYear, newYear+6)
	l := timetable(ba(week), called("AF", 117, long(week)), called("BA", 118, long(week)), called("AF", 9999, ba(week)))
	for _, f := range l {
		onIs(t, l, f.Carrier, f.Number, newYear, f, true)
	}
	for _, carrier := range []string{"", "B", "BAA", "ba", "BA ", "AB", "AA", "BF", "99", "\xff"} {
		onIs(t, l, carrier, 117, newYear, api.Flight{}, false)
	}
	for _, number := range []int{0, 1, -117, 11, 116, 119, 1170, 1<<16 + 117, 1<<32 + 117, math.MaxInt, math.MinInt, math.MinInt + 117} {
		onIs(t, l, "BA", number, newYear, api.Flight{}, false)
	}
	onIs(t, l, "BA", 9999, newYear, api.Flight{}, false)
	onIs(t, l, "AF", 118, newYear, api.Flight{}, false)
	onIs(t, nil, "BA", 117, newYear, api.Flight{}, false)
	// On finds flights that are not valid, too.
	odd := timetable(changed(ba(week), func(f *api.Flight) { f.Legs = nil }), called("", -1, ba(week)))
	onIs(t, odd, "BA", 117, newYear, odd[0], true)
	onIs(t, odd, "", -1, newYear, odd[1], true)
	onIs(t, make([]api.Flight, 3), "", 0, 0, api.Flight{}, false)
}

func TestOnOfSeveralFlights(t *testing.T) {
	// Each one is the first on one of the days.
	l := timetable(ba(days(newYear+1, newYear+1)), long(days(newYear, newYear+1)), ba(days(newYear-1, newYear+2)))
	for i, day := range []int{newYear + 1, newYear, newYear - 1} {
		onIs(t, l, "BA", 117, day, l[i], true)
	}
	onIs(t, l, "BA", 117, newYear+2, l[2], true)
	onIs(t, l, "BA", 117, newYear+3, api.Flight{}, false)
	week := days(newYear, newYear+6)
	onIs(t, timetable(ba(week), long(week)), "BA", 117, newYear, ba(week), true)
	onIs(t, timetable(long(week), ba(week)), "BA", 117, newYear, long(week), true)
	onIs(t, timetable(called("AF", 117, ba(week)), long(week), ba(week)), "BA", 117, newYear, long(week), true)
}

// first returns the flight that On should find, by the definition.
func first(l []api.Flight, carrier string, number, day int) (api.Flight, bool) {
	for _, f := range l {
		if f.Carrier == carrier && f.Number == number && slices.Contains(period.Days(f.Period), day) {
			return f, true
		}
	}
	return api.Flight{}, false
}

func TestOnIsAsDefined(t *testing.T) {
	lists(func(l []api.Flight) {
		for _, f := range []api.Flight{called("BA", 117, ba(api.Period{})), called("AF", 117, ba(api.Period{})), called("BA", 118, ba(api.Period{}))} {
			for _, day := range []int{newYear - 4, newYear, newYear + 3, newYear + 6, newYear + 9, newYear + 10} {
				want, ok := first(l, f.Carrier, f.Number, day)
				onIs(t, l, f.Carrier, f.Number, day, want, ok)
			}
		}
	})
}

// dayIs fails if Day does not return these legs, which are written like "AF 117 CDG".
func dayIs(t *testing.T, l []api.Flight, day int, want ...string) {
	t.Helper()
	got := []string{}
	for _, x := range Day(world(), l, day) {
		got = append(got, x.Carrier+" "+strconv.Itoa(x.Number)+" "+x.From)
	}
	if !slices.Equal(got, want) {
		t.Errorf("Day(%v, %d) = %q, not %q", l, day, got, want)
	}
}

func TestDayOfLegs(t *testing.T) {
	at := newYear * 1440
	// All fields of the legs, of a flight with three and of one with one leg.
	l := timetable(long(days(newYear, newYear)), called("9W", 8, ba(days(newYear-1, newYear+1))))
	want := []api.Dated{
		{Carrier: "BA", Number: 117, Day: newYear, From: "CDG", To: "LHR", Dep: at + 340, Arr: at + 420, Equip: "320"},
		{Carrier: "9W", Number: 8, Day: newYear, From: "LHR", To: "JFK", Dep: at + 500, Arr: at + 1000, Equip: "777"},
		{Carrier: "BA", Number: 117, Day: newYear, From: "LHR", To: "JFK", Dep: at + 500, Arr: at + 1000, Equip: "777"},
		{Carrier: "BA", Number: 117, Day: newYear, From: "JFK", To: "SFO", Dep: at + 1100, Arr: at + 1480, Equip: "777"},
	}
	if got := Day(world(), l, newYear); !slices.Equal(got, want) {
		t.Error(got)
	}
	dayIs(t, l, newYear+1, "9W 8 LHR")
	dayIs(t, l, newYear-1, "9W 8 LHR")
	dayIs(t, l, newYear-2)
	dayIs(t, l, newYear+2)
	dayIs(t, nil, newYear)
	for _, day := range oddDays() {
		dayIs(t, l, day)
	}
	// In summer, London is an hour ahead of UTC.
	if got := Day(world(), timetable(ba(days(springEU, springEU))), springEU); len(got) != 1 || got[0].Dep != springEU*1440+440 {
		t.Error(got)
	}
}

func TestDayOfDepartures(t *testing.T) {
	week := days(newYear, newYear+6)
	from := func(number int, from string, dep int) api.Flight {
		return api.Flight{Carrier: "BA", Number: number, Period: week, Legs: []api.Leg{leg(from, "LGW", dep, 5000)}}
	}
	// The example, and the same in the other order.
	dayIs(t, timetable(from(1, "LHR", 540), from(2, "LHR", 480)), newYear, "BA 2 LHR", "BA 1 LHR")
	dayIs(t, timetable(from(1, "LHR", 480), from(2, "LHR", 540)), newYear, "BA 1 LHR", "BA 2 LHR")
	dayIs(t, timetable(from(1, "LHR", 481), from(2, "LHR", 480)), newYear, "BA 2 LHR", "BA 1 LHR")
	// The order is that of UTC, not of the local times: 500 in Paris is 440, in New York 800.
	dayIs(t, timetable(from(1, "JFK", 500), from(2, "LHR", 500), from(3, "CDG", 500)), newYear, "BA 3 CDG", "BA 2 LHR", "BA 1 JFK")
	dayIs(t, timetable(from(1, "JFK", 139), from(2, "LHR", 440), from(3, "CDG", 501)), newYear, "BA 1 JFK", "BA 2 LHR", "BA 3 CDG")
	// Legs that depart on the day before and on the days after belong to the day of their flight.
	l := timetable(from(1, "LHR", 1500), from(2, "LHR", -60), from(3, "AKL", 100), from(4, "HNL", 1430), from(5, "LHR", 4400), from(6, "LHR", 700))
	dayIs(t, l, newYear, "BA 3 AKL", "BA 2 LHR", "BA 6 LHR", "BA 1 LHR", "BA 4 HNL", "BA 5 LHR")
	dayIs(t, l, newYear-1)
	dayIs(t, l, newYear+7)
	if got := Day(world(), timetable(from(1, "LHR", -60)), newYear); len(got) != 1 || got[0].Dep != newYear*1440-60 || got[0].Day != newYear {
		t.Error(got)
	}
	// The minute 0, and those before.
	l = timetable(from(1, "LHR", 1), from(2, "LHR", 0), from(3, "LHR", -1), from(4, "AKL", 0))
	for i := range l {
		l[i].Period = days(0, 0)
	}
	dayIs(t, l, 0, "BA 4 AKL", "BA 3 LHR", "BA 2 LHR", "BA 1 LHR")
}

func TestDayOfEqualDepartures(t *testing.T) {
	week := days(newYear, newYear+6)
	// Carriers are ordered byte by byte, numbers are not.
	names := []api.Flight{
		called("2B", 5000, ba(week)), called("9A", 1, ba(week)), called("A9", 1, ba(week)), called("AA", 3, ba(week)), called("AZ", 1, ba(week)), called("B0", 2, ba(week)),
		called("BA", 2, ba(week)), called("BA", 9, ba(week)), called("BA", 10, ba(week)), called("BA", 100, ba(week)), called("BA", 9999, ba(week)), called("ZA", 1, ba(week)),
	}
	var want []string
	for _, f := range names {
		want = append(want, f.Carrier+" "+strconv.Itoa(f.Number)+" LHR")
	}
	dayIs(t, names, newYear, want...)
	for i := range names {
		dayIs(t, append(slices.Clone(names[i:]), names[:i]...), newYear, want...)
	}
	slices.Reverse(names)
	dayIs(t, names, newYear, want...)
	// The time is before the carrier, and the carrier before the number.
	later := changed(called("AA", 1, ba(week)), func(f *api.Flight) { f.Legs[0].Dep++ })
	dayIs(t, timetable(later, called("ZZ", 9999, ba(week))), newYear, "ZZ 9999 LHR", "AA 1 LHR")
	dayIs(t, timetable(called("AB", 1, ba(week)), called("AA", 9999, ba(week))), newYear, "AA 9999 LHR", "AB 1 LHR")
	// Legs of one flight depart one after the other if it is valid; otherwise, too, they keep their order.
	same := called("BA", 5, ba(week))
	same.Legs = nil
	want = nil
	for dep := range 3 {
		want = append(want, "BA 4 LHR")
		for i := dep; i < 60; i += 3 {
			want = append(want, "BA 5 X"+strconv.Itoa(i))
		}
		want = append(want, "BA 6 LHR")
	}
	for i := range 60 {
		same.Legs = append(same.Legs, leg("X"+strconv.Itoa(i), "LHR", 500+i%3, 5000))
	}
	four, six := called("BA", 4, ba(week)), called("BA", 6, ba(week))
	four.Legs = []api.Leg{leg("LHR", "JFK", 500, 5000), leg("LHR", "JFK", 501, 5000), leg("LHR", "JFK", 502, 5000)}
	six.Legs = four.Legs
	dayIs(t, timetable(six, same, four), newYear, want...)
}

// dated returns the legs of a day, by the definition.
func dated(p api.Places, l []api.Flight, day int) []api.Dated {
	all := []api.Dated{}
	for _, f := range l {
		if period.Has(f.Period, day) {
			legs, _ := flight.Legs(p, f, day)
			all = append(all, legs...)
		}
	}
	sort.SliceStable(all, func(i, k int) bool {
		a, b := all[i], all[k]
		switch {
		case a.Dep != b.Dep:
			return a.Dep < b.Dep
		case a.Carrier != b.Carrier:
			return a.Carrier < b.Carrier
		}
		return a.Number < b.Number
	})
	return all
}

func TestDayIsAsDefined(t *testing.T) {
	p := world()
	lists(func(l []api.Flight) {
		if len(violations(p, l)) > 0 {
			return
		}
		for day := newYear - 4; day < newYear+11; day++ {
			if got, want := Day(p, l, day), dated(p, l, day); !slices.Equal(got, want) {
				t.Fatalf("Day(%v, %d) = %v, not %v", l, day, got, want)
			}
		}
	})
}

func TestSegOfExamples(t *testing.T) {
	at := newYear * 1440
	l := timetable(long(days(newYear, newYear+2)))
	for _, c := range []struct {
		from, to string
		dep, arr int
	}{
		// Over one leg, over two, over all.
		{"CDG", "LHR", 340, 420}, {"LHR", "JFK", 500, 1000}, {"JFK", "SFO", 1100, 1480}, {"CDG", "JFK", 340, 1000}, {"LHR", "SFO", 500, 1480}, {"CDG", "SFO", 340, 1480},
	} {
		s, e := Seg(world(), l, "BA", 117, newYear, c.from, c.to)
		if want := (api.Seg{Carrier: "BA", Number: 117, Day: newYear, From: c.from, To: c.to, Dep: at + c.dep, Arr: at + c.arr}); e != api.OK || s != want {
			t.Error(c, s, e)
		}
		s, e = Seg(world(), l, "BA", 117, newYear+2, c.from, c.to)
		if want := (api.Seg{Carrier: "BA", Number: 117, Day: newYear + 2, From: c.from, To: c.to, Dep: at + 2880 + c.dep, Arr: at + 2880 + c.arr}); e != api.OK || s != want {
			t.Error(c, s, e)
		}
	}
}

func TestSegOfAirports(t *testing.T) {
	l := timetable(called("AF", 117, ba(days(newYear, newYear))), long(days(newYear, newYear)), called("BA", 118, ba(days(newYear, newYear))))
	right := []string{"CDGLHR", "CDGJFK", "CDGSFO", "LHRJFK", "LHRSFO", "JFKSFO"}
	for _, from := range codes() {
		for _, to := range codes() {
			want := api.ErrPlace
			if slices.Contains(right, from+to) {
				want = api.OK
			}
			s, e := Seg(world(), l, "BA", 117, newYear, from, to)
			if e != want || e != api.OK && s != (api.Seg{}) || e == api.OK && (s.From != from || s.To != to) {
				t.Errorf("Seg from %q to %q: %v, %v", from, to, s, e)
			}
			// These have the leg from LHR to JFK only.
			want = api.ErrPlace
			if from+to == "LHRJFK" {
				want = api.OK
			}
			for _, f := range []api.Flight{l[0], l[2]} {
				if s, e := Seg(world(), l, f.Carrier, f.Number, newYear, from, to); e != want || e == api.OK && (s.Carrier != f.Carrier || s.Number != f.Number) {
					t.Errorf("Seg of %v from %q to %q: %v, %v", f, from, to, s, e)
				}
			}
		}
	}
}

func TestErrorsOfSeg(t *testing.T) {
	l := timetable(long(days(newYear, newYear+2)), ba(days(newYear+3, newYear+3)), called("AF", 117, ba(days(newYear, newYear+6))))
	for _, c := range []struct {
		carrier     string
		number, day int
		from, to    string
		want        api.Errno
	}{
		{"BA", 117, newYear, "LHR", "SFO", api.OK}, {"BA", 117, newYear + 3, "LHR", "JFK", api.OK}, {"AF", 117, newYear + 6, "LHR", "JFK", api.OK},
		// No flight: another carrier, number or day.
		{"BB", 117, newYear, "LHR", "SFO", api.ErrNone}, {"BA", 118, newYear, "LHR", "SFO", api.ErrNone}, {"BA", 117, newYear - 1, "LHR", "SFO", api.ErrNone},
		{"BA", 117, newYear + 4, "LHR", "JFK", api.ErrNone}, {"", 0, 0, "LHR", "JFK", api.ErrNone}, {"BA", 117, -1, "LHR", "JFK", api.ErrNone}, {"BA", 117, math.MinInt, "LHR", "JFK", api.ErrNone},
		// No segment: the flight of the other day, or of the other carrier, has it.
		{"BA", 117, newYear + 3, "LHR", "SFO", api.ErrPlace}, {"AF", 117, newYear, "JFK", "SFO", api.ErrPlace},
		{"BA", 117, newYear, "JFK", "LHR", api.ErrPlace}, {"BA", 117, newYear, "LHR", "LHR", api.ErrPlace}, {"BA", 117, newYear, "", "", api.ErrPlace}, {"BA", 117, newYear, "SFO", "CDG", api.ErrPlace},
		// Both: the flight is looked for first.
		{"BA", 118, newYear, "JFK", "LHR", api.ErrNone}, {"BA", 117, newYear + 4, "XXX", "", api.ErrNone}, {"", 117, newYear, "", "", api.ErrNone},
	} {
		s, e := Seg(world(), l, c.carrier, c.number, c.day, c.from, c.to)
		if e != c.want || (e == api.OK) == (s == api.Seg{}) {
			t.Error(c, s, e)
		}
	}
	for _, day := range oddDays() {
		if s, e := Seg(world(), l, "BA", 117, day, "LHR", "SFO"); e != api.ErrNone || s != (api.Seg{}) {
			t.Error(day, s, e)
		}
	}
	if s, e := Seg(world(), nil, "BA", 117, newYear, "LHR", "JFK"); e != api.ErrNone || s != (api.Seg{}) {
		t.Error(s, e)
	}
}

func TestOperatedOfChanges(t *testing.T) {
	l := timetable(ba(days(newYear, newYear+2)), called("AF", 117, ba(days(newYear, newYear+2))), called("BA", 118, long(days(newYear, newYear+2))))
	s, _ := Seg(world(), l, "BA", 118, newYear, "LHR", "SFO")
	if !Operated(world(), l, s) {
		t.Fatal(s)
	}
	for i, change := range []func(s *api.Seg){
		func(s *api.Seg) { s.Carrier = "AF" }, func(s *api.Seg) { s.Carrier = "" }, func(s *api.Seg) { s.Number = 117 }, func(s *api.Seg) { s.Number = 1<<32 + 118 },
		func(s *api.Seg) { s.Day++ }, func(s *api.Seg) { s.Day-- }, func(s *api.Seg) { s.Day += 7 }, func(s *api.Seg) { s.Day += 1 << 32 },
		func(s *api.Seg) { s.Day++; s.Dep += 1440 }, func(s *api.Seg) { s.Day++; s.Arr += 1440 },
		func(s *api.Seg) { s.From = "CDG" }, func(s *api.Seg) { s.From = "JFK" }, func(s *api.Seg) { s.From = "LGW" }, func(s *api.Seg) { s.From = "" }, func(s *api.Seg) { s.From = "LON" },
		func(s *api.Seg) { s.To = "JFK" }, func(s *api.Seg) { s.To = "LHR" }, func(s *api.Seg) { s.To = "CDG" }, func(s *api.Seg) { s.To = "" }, func(s *api.Seg) { s.From, s.To = s.To, s.From },
		func(s *api.Seg) { s.Dep++ }, func(s *api.Seg) { s.Dep-- }, func(s *api.Seg) { s.Arr++ }, func(s *api.Seg) { s.Arr-- }, func(s *api.Seg) { s.Dep++; s.Arr++ }, func(s *api.Seg) { s.Dep, s.Arr = s.Arr, s.Dep },
		func(s *api.Seg) { s.Dep += 1 << 32 }, func(s *api.Seg) { s.Arr += 1 << 32 }, func(s *api.Seg) { s.Dep, s.Arr = 0, 0 }, func(s *api.Seg) { *s = api.Seg{} },
	} {
		other := s
		change(&other)
		if Operated(world(), l, other) {
			t.Errorf("change %d: %v is operated", i, other)
		}
	}
	// With all that depends on it, each of these is a segment that is operated.
	for _, name := range []api.Seg{{Carrier: "BA", Number: 117, Day: newYear}, {Carrier: "AF", Number: 117, Day: newYear + 2}, {Carrier: "BA", Number: 118, Day: newYear + 1}} {
		other, e := Seg(world(), l, name.Carrier, name.Number, name.Day, "LHR", "JFK")
		if e != api.OK || !Operated(world(), l, other) || Operated(world(), nil, other) || Operated(world(), l[:0], other) {
			t.Error(other, e)
		}
	}
	// A segment that does not exist is not operated, even if it is the zero segment that Seg returns.
	if Operated(world(), l, api.Seg{}) || Operated(world(), make([]api.Flight, 1), api.Seg{}) || Operated(world(), nil, api.Seg{}) {
		t.Error("the zero segment is operated")
	}
	// The example: the departure of the flight was moved.
	moved := timetable(changed(ba(days(newYear, newYear+2)), func(f *api.Flight) { f.Legs[0].Dep += 10 }))
	before, _ := Seg(world(), l, "BA", 117, newYear, "LHR", "JFK")
	after, e := Seg(world(), moved, "BA", 117, newYear, "LHR", "JFK")
	if e != api.OK || Operated(world(), moved, before) || !Operated(world(), moved, after) || Operated(world(), l, after) || after.Dep != before.Dep+10 || after.Arr != before.Arr {
		t.Error(before, after, e)
	}
}

// P8.3

// differIs fails if Differ does not return these days, for BA 117, in both orders.
func differIs(t *testing.T, a, b []api.Flight, p api.Period, want ...int) {
	t.Helper()
	for _, got := range [][]int{Differ(a, b, "BA", 117, p), Differ(b, a, "BA", 117, p)} {
		if !slices.Equal(got, want) {
			t.Errorf("Differ(%v, %v, .., %v) = %v, not %v", a, b, p, got, want)
		}
	}
}

func TestDifferOfFlightsInOne(t *testing.T) {
	l := timetable(ba(days(newYear+2, newYear+4)))
	all := days(newYear, newYear+9)
	differIs(t, l, nil, all, newYear+2, newYear+3, newYear+4)
	differIs(t, l, timetable(called("AF", 117, ba(all)), called("BA", 118, ba(all))), all, newYear+2, newYear+3, newYear+4)
	differIs(t, nil, nil, all)
	differIs(t, nil, timetable(called("AF", 117, ba(all)), called("BA", 118, ba(all))), all)
	// A flight without legs is still a flight.
	empty := timetable(changed(ba(days(newYear+2, newYear+4)), func(f *api.Flight) { f.Legs = nil }))
	differIs(t, empty, nil, all, newYear+2, newYear+3, newYear+4)
	differIs(t, empty, l, all, newYear+2, newYear+3, newYear+4)
	differIs(t, empty, timetable(changed(empty[0], func(f *api.Flight) { f.Legs = []api.Leg{} })), all)
	// The example: without the Sundays.
	differIs(t, timetable(ba(days(newYear, newYear+20))), timetable(ba(some(newYear, newYear+20, 63))), all, 9500)
	differIs(t, timetable(ba(days(newYear, newYear+20))), timetable(ba(some(newYear, newYear+20, 63))), days(newYear, newYear+30), 9500, 9507, 9514)
	// Another name is compared with its own flights.
	other := timetable(called("AF", 117, ba(days(newYear, newYear+1))), called("BA", 118, ba(days(newYear+1, newYear+2))), ba(all))
	for _, c := range []struct {
		carrier string
		number  int
		want    []int
	}{
		{"AF", 117, []int{newYear, newYear + 1}}, {"BA", 118, []int{newYear + 1, newYear + 2}}, {"BA", 117, []int{newYear, newYear + 1, newYear + 5, newYear + 6, newYear + 7, newYear + 8, newYear + 9}},
		{"AF", 118, nil}, {"", 0, nil}, {"BA", 1<<32 + 117, nil}, {"ba", 117, nil},
	} {
		if got := Differ(l, other, c.carrier, c.number, all); !slices.Equal(got, c.want) {
			t.Error(c, got)
		}
	}
}

func TestDifferOfLegs(t *testing.T) {
	p := days(newYear, newYear+6)
	l := timetable(long(p))
	differIs(t, l, timetable(long(p)), p)
	for i, change := range []func(x *api.Leg){
		func(x *api.Leg) { x.From = "LGW" }, func(x *api.Leg) { x.To = "LGW" }, func(x *api.Leg) { x.Dep++ }, func(x *api.Leg) { x.Arr-- }, func(x *api.Leg) { x.Equip = "380" },
		func(x *api.Leg) { x.Dep += 1 << 32 }, func(x *api.Leg) { x.Arr += 1 << 32 }, func(x *api.Leg) { *x = api.Leg{} },
	} {
		for k := range 3 {
			f := changed(long(some(newYear, newYear+6, 96)), func(f *api.Flight) { change(&f.Legs[k]) })
			if got := Differ(l, timetable(f, long(some(newYear, newYear+6, 31))), "BA", 117, p); !slices.Equal(got, []int{newYear + 2, newYear + 3}) {
				t.Errorf("change %d of leg %d: %v", i, k, got)
			}
		}
	}
	// Fewer and more legs, and others in another order.
	all := period.Days(p)
	for k := range 3 {
		differIs(t, l, timetable(changed(long(p), func(f *api.Flight) { f.Legs = f.Legs[:k] })), p, all...)
		differIs(t, l, timetable(changed(long(p), func(f *api.Flight) { f.Legs = f.Legs[k+1:] })), p, all...)
		differIs(t, l, timetable(changed(long(p), func(f *api.Flight) { f.Legs[k], f.Legs[(k+1)%3] = f.Legs[(k+1)%3], f.Legs[k] })), p, all...)
	}
	// Only the legs matter: the same local times differ in UTC on the day of a shift, and that is no difference.
	differIs(t, timetable(long(days(springEU-3, springEU+3))), timetable(long(days(springEU-3, springEU)), long(days(springEU+1, springEU+3))), days(springEU-9, springEU+9))
}

func TestDifferOfDays(t *testing.T) {
	a, b := timetable(ba(days(newYear+10, newYear+14))), timetable(ba(days(newYear+13, newYear+16)))
	for _, c := range []struct {
		p    api.Period
		want []int
	}{
		// Before, inside, across and after both periods.
		{days(newYear, newYear+9), nil}, {days(newYear+13, newYear+14), nil}, {days(newYear+11, newYear+12), []int{newYear + 11, newYear + 12}}, {days(newYear+12, newYear+13), []int{newYear + 12}},
		{days(newYear+9, newYear+10), []int{newYear + 10}}, {days(newYear+14, newYear+15), []int{newYear + 15}}, {days(newYear+15, newYear+15), []int{newYear + 15}},
		{days(newYear, newYear+30), []int{newYear + 10, newYear + 11, newYear + 12, newYear + 15, newYear + 16}}, {days(newYear+16, newYear+30), []int{newYear + 16}}, {days(newYear+17, newYear+30), nil},
		{days(0, 799), nil}, {days(lastDay-799, lastDay), nil},
		// 9507 and 9514 are Sundays, 9508 is a Monday.
		{some(newYear, newYear+30, 64), []int{9507}}, {some(newYear, newYear+30, 65), []int{9507, 9508}}, {some(newYear, newYear+30, 10), []int{9509}}, {some(newYear, newYear+30, 32), []int{9513}},
		// A period that has no days.
		{some(newYear+10, newYear+12, 8), nil}, {some(newYear+10, newYear+10, 63), nil},
	} {
		differIs(t, a, b, c.p, c.want...)
	}
	for _, p := range badPeriods() {
		differIs(t, timetable(ba(days(newYear-9, newYear+9))), nil, p)
	}
	// The first and the last day of all, and as many days as a period may have.
	differIs(t, timetable(ba(days(0, 0)), ba(days(lastDay, lastDay))), nil, days(0, 799), 0)
	differIs(t, timetable(ba(days(0, 0)), ba(days(lastDay, lastDay))), nil, days(lastDay-799, lastDay), lastDay)
	differIs(t, timetable(ba(days(newYear, newYear+799))), nil, days(newYear, newYear+799), period.Days(days(newYear, newYear+799))...)
	// The sets on the days are the same, though the periods are not: from some day on, and everywhere.
	differIs(t, timetable(ba(days(newYear, newYear+9))), timetable(ba(days(newYear+5, newYear+20))), days(newYear+5, newYear+9))
	differIs(t, timetable(ba(some(newYear, newYear, 8))), timetable(ba(some(newYear, newYear+6, 8))), days(newYear-9, newYear+19))
	differIs(t, timetable(ba(some(newYear, newYear+6, 8))), timetable(ba(some(newYear-6, newYear, 9))), days(newYear-2, newYear+19))
	differIs(t, timetable(ba(days(newYear, newYear+9))), timetable(ba(some(newYear, newYear+9, 21)), ba(some(newYear, newYear+9, 106))), days(newYear-9, newYear+19))
	// A flight whose period is not valid is not operated.
	for _, p := range badPeriods() {
		differIs(t, timetable(ba(p)), nil, days(newYear-9, newYear+9))
		differIs(t, timetable(ba(p)), timetable(ba(days(newYear, newYear))), days(newYear-9, newYear+9), newYear)
	}
	// Of several flights on a day the first one counts.
	differIs(t, timetable(long(days(newYear, newYear)), ba(days(newYear, newYear+1))), timetable(ba(days(newYear, newYear+1)), long(days(newYear, newYear))), days(newYear-9, newYear+9), newYear)
}

// differences returns the days that Differ should return, by the definition.
func differences(a, b []api.Flight, carrier string, number int, p api.Period) []int {
	var l []int
	for day := range api.MaxDay {
		if !period.Has(p, day) {
			continue
		}
		f, inA := first(a, carrier, number, day)
		g, inB := first(b, carrier, number, day)
		if inA && inB && reflect.DeepEqual(slices.Clone(f.Legs), slices.Clone(g.Legs)) || !inA && !inB {
			continue
		}
		l = append(l, day)
	}
	return l
}

func TestDifferIsAsDefined(t *testing.T) {
	var all [][]api.Flight
	lists(func(l []api.Flight) {
		if len(l) < 3 {
			all = append(all, l)
		}
	})
	for i, a := range all {
		for k, b := range all {
			if (i+k)%29 > 0 {
				continue
			}
			for _, p := range []api.Period{days(newYear-4, newYear+10), some(newYear, newYear+9, 72), days(newYear+1, newYear)} {
				differIs(t, a, b, p, differences(a, b, "BA", 117, p)...)
			}
		}
	}
	if len(all) != 241 {
		t.Errorf("there are %d lists", len(all))
	}
}

func TestDifferOfItself(t *testing.T) {
	names := kit()
	lists(func(l []api.Flight) {
		copied := slices.Clone(l)
		for i, f := range copied {
			copied[i].Legs = slices.Clone(f.Legs)
		}
		for _, f := range []api.Flight{names[0], names[11], names[13]} {
			if got := Differ(l, copied, f.Carrier, f.Number, days(newYear-4, newYear+10)); len(got) > 0 {
				t.Errorf("%v differs from itself on %v", l, got)
			}
		}
	})
}

// P8.4

// timetables returns right timetables with different numbers of legs, around shifts, and at the first and the last day.
func timetables() [][]api.Flight {
	six := called("AF", 6, ba(days(springEU-2, springEU+2)))
	six.Legs = []api.Leg{
		leg("HNL", "SFO", -1440, -700), leg("SFO", "JFK", -600, -200), leg("JFK", "LHR", -200, 600), leg("LHR", "CDG", 700, 860), leg("CDG", "LGW", 920, 1000), leg("LGW", "AKL", 1020, 5759),
	}
	nights := called("9W", 1, ba(some(springEU-9, springEU+9, 96)))
	// London skips the minutes from 60 to 119.
	nights.Legs = []api.Leg{leg("CDG", "LHR", 30, 61), leg("LHR", "JFK", 90, 1400)}
	return [][]api.Flight{
		timetable(six, nights, long(some(springEU-9, springEU+9, 85)), ba(some(springEU-9, springEU+9, 42))),
		timetable(called("AF", 6, long(days(0, 2))), called("AF", 7, long(days(lastDay-1, lastDay))), called("AF", 6, ba(days(3, 3)))),
		timetable(ba(days(newYear, newYear))), nil,
	}
}

func TestAllSegmentsAreOperated(t *testing.T) {
	p := world()
	count := 0
	for _, l := range timetables() {
		if x := Check(p, l); len(x) > 0 {
			t.Errorf("a timetable of this test is not right: %v", x)
		}
		for _, f := range l {
			for _, day := range period.Days(f.Period) {
				segs, _ := flight.Segs(p, f, day)
				for _, s := range segs {
					count++
					if got, e := Seg(p, l, s.Carrier, s.Number, s.Day, s.From, s.To); e != api.OK || got != s || !Operated(p, l, s) {
						t.Errorf("%v is not operated: %v, %v", s, got, e)
					}
					for _, change := range []int{1, -1, 60, -60, 1440, -1440, 1 << 32, math.MinInt} {
						later, longer := s, s
						later.Dep += change
						longer.Arr += change
						if Operated(p, l, later) || Operated(p, l, longer) {
							t.Errorf("%v is operated at other times (%d)", s, change)
						}
					}
				}
			}
		}
	}
	if count < 200 {
		t.Errorf("%d segments", count)
	}
}

func TestNothingElseIsOperated(t *testing.T) {
	p := world()
	for _, l := range timetables() {
		// What On finds has these segments; all other airports, days and names have none.
		for _, f := range l {
			for day := f.Period.From - 2; day < f.Period.To+3; day++ {
				g, ok := On(l, f.Carrier, f.Number, day)
				segs, _ := flight.Segs(p, g, day)
				if ok != (len(segs) > 0) {
					t.Errorf("%v on %d: %v", g, day, segs)
				}
				for _, from := range codes() {
					for _, to := range codes() {
						s, e := Seg(p, l, f.Carrier, f.Number, day, from, to)
						if slices.Contains(segs, s) != (e == api.OK) || (e == api.ErrNone) == ok {
							t.Errorf("Seg of %v on %d from %q to %q: %v, %v", f, day, from, to, s, e)
						}
					}
				}
			}
		}
	}
}

// All calls

// oddTimetables returns lists that are not right, besides right ones.
func oddTimetables() [][]api.Flight {
	all := timetables()
	lists(func(l []api.Flight) {
		if len(l) == 2 {
			all = append(all, l)
		}
	})
	odd := api.Leg{From: "LHR", To: "LHR", Dep: math.MinInt, Arr: math.MaxInt}
	week := days(newYear, newYear+6)
	for _, p := range append(badPeriods(), week) {
		all = append(all, timetable(api.Flight{Period: p}, ba(p), api.Flight{Carrier: strings.Repeat("BA", 1000), Number: math.MinInt, Period: p, Legs: []api.Leg{odd, {}, odd}}, long(p)))
	}
	return append(all, make([]api.Flight, 5), timetable(api.Flight{Carrier: "BA", Number: 117, Period: week, Legs: slices.Repeat([]api.Leg{odd}, 20)}))
}

// oddPlaces returns places that are not valid, besides valid ones.
func oddPlaces() []api.Places {
	zone := api.Zone{Offset: math.MaxInt, Shifts: []api.Shift{{At: math.MaxInt, Offset: math.MaxInt}, {At: math.MinInt, Offset: math.MinInt}, {At: newYear * 1440, Offset: 841}}}
	return []api.Places{{}, world(), {Airports: make([]api.Airport, 3), Distances: make([]api.Distance, 3)}, {Airports: []api.Airport{{Code: "LHR", Zone: zone}, {Code: "JFK"}, {Code: "JFK", Zone: zone}, {Zone: zone}}}}
}

// results calls all functions, and returns their results.
func results(p api.Places, l []api.Flight, s api.Seg, days api.Period) []any {
	f, ok := On(l, s.Carrier, s.Number, s.Day)
	found, e := Seg(p, l, s.Carrier, s.Number, s.Day, s.From, s.To)
	half := l[len(l)/2:]
	return []any{
		Check(p, l), f, ok, Day(p, l, s.Day), found, e, Operated(p, l, s),
		Differ(l, half, s.Carrier, s.Number, days), Differ(half, l, s.Carrier, s.Number, days),
	}
}

func TestNothingPanicsAndResultsAreTheSameAgain(t *testing.T) {
	segs := []api.Seg{{}, {Carrier: "BA", Number: 117, Day: newYear, From: "LHR", To: "JFK", Dep: newYear*1440 + 500, Arr: newYear*1440 + 1000}, {Carrier: "BA", Number: 117, Day: newYear, From: "LHR", To: "LHR", Dep: math.MinInt, Arr: math.MaxInt}}
	for _, day := range oddDays() {
		segs = append(segs, api.Seg{Carrier: "BA", Number: 117, Day: day})
	}
	for _, p := range oddPlaces() {
		for _, l := range oddTimetables() {
			for i, s := range segs {
				all := badPeriods()
				days := all[i%len(all)]
				a, b := results(p, l, s, days), results(p, l, s, days)
				if !reflect.DeepEqual(a, b) {
					t.Fatalf("%v of %v: %v and %v", s, l, a, b)
				}
				if e := a[5].(api.Errno); e != api.OK && a[4] != (api.Seg{}) || !a[2].(bool) && !flight.Same(a[1].(api.Flight), api.Flight{}) {
					t.Errorf("%v of %v: a result where there is none: %v", s, l, a)
				}
			}
		}
	}
}

// spare returns a copy of a list that has memory behind its end, which is a copy of its elements.
func spare[T any](l []T) []T { return append(slices.Clone(l), l...)[:len(l)] }

// whole returns a list with the memory behind its end.
func whole[T any](l []T) []T { return slices.Clone(l[:cap(l)]) }

// memory returns all that can be reached from arguments, with the memory behind the ends of their lists.
func memory(p api.Places, l []api.Flight, s api.Seg) []any {
	all := []any{whole(p.Airports), whole(p.Distances), whole(l), s}
	for _, a := range p.Airports {
		all = append(all, whole(a.Zone.Shifts))
	}
	for _, f := range l {
		all = append(all, whole(f.Legs))
	}
	return all
}

// deep returns a copy of a value of memory, which shares nothing with it.
func deep(all []any) []any {
	copied := slices.Clone(all)
	flights := slices.Clone(all[2].([]api.Flight))
	for i, f := range flights {
		flights[i].Legs = slices.Clone(f.Legs)
	}
	airports := slices.Clone(all[0].([]api.Airport))
	for i, a := range airports {
		airports[i].Zone.Shifts = slices.Clone(a.Zone.Shifts)
	}
	copied[0], copied[2] = airports, flights
	return copied
}

func TestArgumentsAreNotModified(t *testing.T) {
	for _, l := range oddTimetables() {
		p := world()
		p.Airports, p.Distances, l = spare(p.Airports), spare(p.Distances), spare(l)
		for i := range p.Airports {
			p.Airports[i].Zone.Shifts = spare(p.Airports[i].Zone.Shifts)
		}
		for i := range l {
			l[i].Legs = spare(l[i].Legs)
		}
		for _, day := range []int{newYear, springEU, 0} {
			s := api.Seg{Carrier: "BA", Number: 117, Day: day, From: "LHR", To: "JFK", Dep: newYear*1440 + 500, Arr: newYear*1440 + 1000}
			before := deep(memory(p, l, s))
			results(p, l, s, days(newYear-9, newYear+9))
			if after := memory(p, l, s); !reflect.DeepEqual(before, after) {
				t.Fatalf("an argument was modified: %v, %v", before, after)
			}
		}
	}
}

func TestResultsAreNewMemory(t *testing.T) {
	p, l := world(), timetable(long(days(newYear, newYear+6)))
	f, _ := On(l, "BA", 117, newYear)
	again, _ := On(l, "BA", 117, newYear)
	clear(f.Legs)
	clear(Day(p, l, newYear))
	clear(Differ(l, nil, "BA", 117, days(newYear, newYear)))
	clear(Check(p, timetable(l[0], l[0])))
	if len(f.Legs) != 3 || !flight.Same(l[0], long(days(newYear, newYear+6))) || !flight.Same(again, l[0]) || !reflect.DeepEqual(p, world()) {
		t.Error("changing a result changed an argument")
	}
	if x := places.Check(p); len(x) > 0 {
		t.Errorf("the places of the tests are not valid: %v", x)
	}
}
