package codeshare

import (
	"math"
	"reflect"
	"slices"
	"strconv"
	"strings"
	"testing"

	"airline/api"
	"airline/flight"
	"airline/period"
	"airline/places"
	"airline/schedule"
)

const (
	// newYear is 2026-01-01, a Thursday.
	newYear = 9497
	// springEU is 2026-03-29, the Sunday on which summer time begins in London and Paris.
	springEU = 9584
	lastDay  = api.MaxDay - 1
	everyDay = 127
)

// world returns airports in zones with and without summer time.
func world() api.Places {
	summer := func(offset int) api.Zone {
		return api.Zone{Offset: offset, Shifts: []api.Shift{{At: springEU*1440 + 60, Offset: offset + 60}, {At: 9794*1440 + 60, Offset: offset}}}
	}
	return api.Places{
		Airports: []api.Airport{
			{Code: "LHR", City: "LON", Country: "GB", Zone: summer(0)}, {Code: "CDG", City: "PAR", Country: "FR", Zone: summer(60)},
			{Code: "JFK", City: "NYC", Country: "US", Zone: api.Zone{Offset: -300}}, {Code: "SFO", City: "SFO", Country: "US", Zone: api.Zone{Offset: -480}},
		},
		Distances: []api.Distance{{From: "LON", To: "PAR", Miles: 214}},
	}
}

// codes returns the airports of world, and texts that are none.
func codes() []string {
	return []string{"LHR", "CDG", "JFK", "SFO", "LON", "NYC", "XXX", "", "lhr", "LHRX", "LH"}
}

// days returns a period with every weekday, and some one with given ones.
func days(from, to int) api.Period { return api.Period{From: from, To: to, Days: everyDay} }

func some(from, to, weekdays int) api.Period { return api.Period{From: from, To: to, Days: weekdays} }

// one returns a period with a single day.
func one(day int) api.Period { return days(day, day) }

// long returns a flight with three legs, and short one that has only the one between.
func long(carrier string, number int, p api.Period) api.Flight {
	return api.Flight{Carrier: carrier, Number: number, Period: p, Legs: []api.Leg{
		{From: "CDG", To: "LHR", Dep: 400, Arr: 420, Equip: "320"}, {From: "LHR", To: "JFK", Dep: 500, Arr: 700, Equip: "777"}, {From: "JFK", To: "SFO", Dep: 800, Arr: 1000, Equip: "777"},
	}}
}

func short(carrier string, number int, p api.Period) api.Flight {
	f := long(carrier, number, p)
	f.Legs = f.Legs[1:2]
	return f
}

// table returns a timetable: BA 2 has three legs on ten days, and one on the three days after them.
func table() []api.Flight {
	return []api.Flight{
		long("BA", 2, days(newYear, newYear+9)), short("BA", 2, days(newYear+10, newYear+12)),
		short("AF", 10, days(newYear+2, newYear+4)), short("9W", 2, some(newYear, newYear+9, 85)), long("BA", 9999, days(springEU-3, springEU+3)), short("BA", 1, one(newYear)),
	}
}

// af returns the share AF 900 of BA 2 from LHR to JFK, and way the same one between other airports.
func af(p api.Period) api.Share {
	return api.Share{Carrier: "AF", Number: 900, Period: p, Operating: "BA", As: 2, From: "LHR", To: "JFK"}
}

func way(p api.Period, from, to string) api.Share {
	return changed(af(p), func(s *api.Share) { s.From, s.To = from, to })
}

// changed returns a share with a change.
func changed(s api.Share, change func(s *api.Share)) api.Share {
	change(&s)
	return s
}

// called returns a share under another carrier and number.
func called(carrier string, number int, s api.Share) api.Share {
	return changed(s, func(s *api.Share) { s.Carrier, s.Number = carrier, number })
}

// of returns a share of another flight.
func of(operating string, as int, s api.Share) api.Share {
	return changed(s, func(s *api.Share) { s.Operating, s.As = operating, as })
}

// list returns shares, to write them shortly.
func list(l ...api.Share) []api.Share { return l }

// badPeriods are periods that are not right, though most of them have bounds on both sides of newYear.
func badPeriods() []api.Period {
	return []api.Period{
		{}, days(-1, newYear), days(newYear+1, newYear-1), days(newYear, api.MaxDay), days(math.MinInt, math.MaxInt), days(newYear-400, newYear+400),
		some(newYear-9, newYear+9, 0), some(newYear-9, newYear+9, 128), some(newYear-9, newYear+9, 255), some(newYear-9, newYear+9, -1), some(newYear, newYear, 1<<32+8),
	}
}

// oddDays are no days. Some of them are newYear in 16 or 32 bits.
func oddDays() []int {
	return []int{-1, -newYear, api.MaxDay, 1<<16 + newYear, 1<<32 + newYear, math.MaxInt, math.MinInt, math.MinInt + newYear}
}

func TestTimetableIsRight(t *testing.T) {
	if x := places.Check(world()); len(x) > 0 {
		t.Errorf("the places of the tests are not right: %v", x)
	}
	if x := schedule.Check(world(), table()); len(x) > 0 {
		t.Errorf("the timetable of the tests is not right: %v", x)
	}
}

// P9.1

// checkIn fails if Check does not return these violations, which are written like "5 share 1", in this order.
func checkIn(t *testing.T, l []api.Flight, shares []api.Share, want ...string) {
	t.Helper()
	got := []string{}
	for _, x := range Check(world(), l, shares) {
		got = append(got, strconv.Itoa(int(x.Err))+" "+x.At)
	}
	if !slices.Equal(got, want) {
		t.Errorf("Check(.., %v) = %q, not %q", shares, got, want)
	}
}

// checkIs does so for the timetable of the tests.
func checkIs(t *testing.T, shares []api.Share, want ...string) {
	t.Helper()
	checkIn(t, table(), shares, want...)
}

func TestCheckOfRightShares(t *testing.T) {
	checkIs(t, nil)
	checkIs(t, list())
	checkIn(t, nil, nil)
	checkIs(t, list(af(days(newYear, newYear+12))))
	checkIs(t, list(af(one(newYear))))
	checkIs(t, list(af(some(newYear, newYear+12, 1))))
	checkIs(t, list(way(days(newYear, newYear+9), "CDG", "SFO"), called("AF", 901, way(days(newYear, newYear+9), "CDG", "SFO"))))
	checkIs(t, list(af(days(newYear, newYear+4)), called("2B", 2, af(days(newYear, newYear+12))), af(days(newYear+5, newYear+9)), called("BB", 77, of("AF", 10, af(days(newYear+2, newYear+4))))))
	checkIs(t, list(of("BA", 9999, af(days(springEU-3, springEU+3)))))
	// A share without days breaks no rule of days, whatever it sells.
	for _, p := range []api.Period{some(newYear, newYear, 16), some(newYear+2, newYear+3, 31)} {
		checkIs(t, list(af(p), of("BA", 3, af(p)), way(p, "XXX", ""), called("AF", 10, af(p))))
		checkIn(t, nil, list(af(p), af(p)))
	}
}

func TestCheckOfExample(t *testing.T) {
	checkIs(t, list(af(one(newYear+13))), "7 share 0")
	checkIs(t, list(af(days(newYear-9, newYear-1))), "7 share 0")
	checkIn(t, nil, list(af(one(newYear))), "7 share 0")
}

func TestCheckOfNames(t *testing.T) {
	week := days(newYear, newYear+6)
	none := some(newYear, newYear, 16)
	for _, carrier := range []string{"", "A", "AFR", "af", "Af", "99", "A ", " A", "A-", "É", "AF\n", "A\xff"} {
		checkIs(t, list(called(carrier, 900, af(week))), "5 share 0")
		// No flight is operated by a carrier that is none.
		checkIs(t, list(of(carrier, 2, af(week))), "5 share 0", "7 share 0")
		checkIs(t, list(of(carrier, 2, af(none))), "5 share 0")
		checkIs(t, list(called("A?", 900, of(carrier, 2, af(none)))), "5 share 0")
		checkIs(t, list(called(carrier, 900, of(carrier, 2, af(none)))), "5 share 0", "8 share 0")
		checkIs(t, list(called(carrier, 900, of(carrier, 2, af(week)))), "5 share 0", "8 share 0", "7 share 0")
	}
	for _, carrier := range []string{"AA", "ZZ", "A0", "9Z"} {
		checkIs(t, list(called(carrier, 900, af(week))))
		checkIs(t, list(of(carrier, 2, af(none))))
	}
}

func TestCheckOfNumbers(t *testing.T) {
	week := days(newYear, newYear+6)
	none := some(newYear, newYear, 16)
	for _, number := range []int{0, -1, -900, 10000, 1<<16 + 900, 1<<32 + 900, math.MaxInt, math.MinInt} {
		checkIs(t, list(called("AF", number, af(week))), "2 share 0")
		checkIs(t, list(of("BA", number, af(week))), "2 share 0", "7 share 0")
		checkIs(t, list(of("BA", number, af(none))), "2 share 0")
		checkIs(t, list(called("AF", number, of("BA", number, af(none)))), "2 share 0")
		checkIs(t, list(called("AF", 0, of("BA", number, af(none)))), "2 share 0")
	}
	for _, number := range []int{1, 2, 10, 9998, 9999} {
		checkIs(t, list(called("XX", number, af(week))))
		checkIs(t, list(of("XX", number, af(none))))
	}
	checkIs(t, list(of("BA", 1, af(one(newYear)))))
	checkIs(t, list(of("BA", 9999, af(one(springEU)))))
}

func TestCheckOfKinds(t *testing.T) {
	week := days(newYear, newYear+6)
	checkIs(t, list(called("BA", 900, af(week))), "8 share 0")
	checkIs(t, list(of("AF", 10, af(days(newYear+2, newYear+4)))), "8 share 0")
	checkIs(t, list(of("AF", 900, af(week))), "8 share 0", "7 share 0")
	// The same number alone is none.
	checkIs(t, list(called("AF", 2, af(week))))
	checkIs(t, list(called("BA", 2, af(week))), "8 share 0", "6 share 0")
}

func TestCheckOfPeriods(t *testing.T) {
	for _, p := range badPeriods() {
		e := strconv.Itoa(int(period.Check(p)))
		checkIs(t, list(af(p)), e+" share 0")
		// No rule of days is broken then, the others are.
		checkIs(t, list(of("BA", 3, af(p)), way(p, "JFK", "LHR"), called("AF", 10, af(p)), af(p)), e+" share 0", e+" share 1", e+" share 2", e+" share 3")
		checkIs(t, list(called("af", 0, of("af", 10000, af(p)))), "5 share 0", "2 share 0", "8 share 0", e+" share 0")
		checkIn(t, nil, list(called("AF", 0, of("AF", 1, af(p)))), "2 share 0", "8 share 0", e+" share 0")
		// It has no day that a later share could have, nor one of an earlier share.
		checkIs(t, list(af(p), af(days(newYear, newYear+9))), e+" share 0")
		checkIs(t, list(af(days(newYear, newYear+9)), af(p)), e+" share 1")
		checkIs(t, list(af(p), af(one(newYear)), af(p), af(one(newYear))), e+" share 0", e+" share 2", "6 share 3")
	}
	checkIs(t, list(af(days(newYear+1, newYear)), af(days(newYear, newYear+800)), af(some(newYear, newYear, 0))), "12 share 0", "4 share 1", "2 share 2")
	// As many days as a period may have, and the first and the last of all days.
	checkIs(t, list(af(days(newYear, newYear+799))), "7 share 0")
	l := []api.Flight{short("BA", 2, days(0, 799)), short("BA", 2, days(lastDay-799, lastDay))}
	checkIn(t, l, list(af(days(0, 799)), af(days(lastDay-799, lastDay))))
	checkIn(t, l, list(af(days(1, 800)), af(days(lastDay-800, lastDay-1))), "7 share 0", "7 share 1")
	checkIn(t, l, list(af(days(0, 799)), af(one(799)), af(one(lastDay)), af(one(0))), "6 share 1", "6 share 3")
}

func TestCheckOfDaysWithoutFlight(t *testing.T) {
	week := days(newYear, newYear+6)
	for _, c := range []struct {
		flights []api.Flight
		none    bool
	}{
		{[]api.Flight{short("BA", 2, week)}, false}, {[]api.Flight{short("BA", 2, days(newYear-9, newYear+9))}, false},
		{[]api.Flight{short("BA", 2, days(newYear, newYear+2)), short("BA", 2, days(newYear+3, newYear+6))}, false},
		{[]api.Flight{short("BA", 2, some(newYear, newYear+6, 85)), long("BA", 2, some(newYear, newYear+6, 42))}, false},
		// Without the first day, the last one, one between, all but one, all.
		{[]api.Flight{short("BA", 2, days(newYear+1, newYear+9))}, true}, {[]api.Flight{short("BA", 2, days(newYear-9, newYear+5))}, true},
		{[]api.Flight{short("BA", 2, days(newYear, newYear+2)), short("BA", 2, days(newYear+4, newYear+6))}, true}, {[]api.Flight{short("BA", 2, some(newYear, newYear+6, 63))}, true},
		{[]api.Flight{short("BA", 2, one(newYear))}, true}, {[]api.Flight{short("BA", 2, one(newYear+6))}, true}, {[]api.Flight{short("BA", 2, one(newYear+3))}, true},
		{[]api.Flight{short("BA", 2, days(newYear-9, newYear-1)), short("BA", 2, days(newYear+7, newYear+9))}, true},
		// Other names.
		{[]api.Flight{short("BA", 3, week)}, true}, {[]api.Flight{short("AB", 2, week)}, true}, {[]api.Flight{short("BA", 22, week)}, true}, {[]api.Flight{short("BA", 3, week), short("AB", 2, week), short("BA", 2, week)}, false},
	} {
		if c.none {
			checkIn(t, c.flights, list(af(week)), "7 share 0")
		} else {
			checkIn(t, c.flights, list(af(week)))
		}
		// On the first day alone, by the definition.
		if _, ok := schedule.On(c.flights, "BA", 2, newYear); ok {
			checkIn(t, c.flights, list(af(one(newYear))))
		} else {
			checkIn(t, c.flights, list(af(one(newYear))), "7 share 0")
		}
	}
	// 9500 is a Sunday: only the days of the share count.
	l := []api.Flight{short("BA", 2, some(newYear, newYear+20, 63))}
	checkIn(t, l, list(af(some(newYear, newYear+20, 63))))
	checkIn(t, l, list(af(some(newYear, newYear+20, 127))), "7 share 0")
	checkIn(t, l, list(af(some(newYear, newYear+20, 64))), "7 share 0")
	checkIn(t, l, list(af(some(newYear, newYear+2, 127))))
	// What a share sells is not operated: a share of it is none.
	checkIs(t, list(af(week), called("XX", 1, of("AF", 900, af(week)))), "7 share 1")
	checkIs(t, list(called("XX", 1, of("AF", 900, af(week))), af(week)), "7 share 0")
}

func TestCheckOfAirports(t *testing.T) {
	right := []string{"CDGLHR", "CDGJFK", "CDGSFO", "LHRJFK", "LHRSFO", "JFKSFO"}
	for _, from := range codes() {
		for _, to := range codes() {
			var wantLong, wantShort []string
			if !slices.Contains(right, from+to) {
				wantLong = []string{"15 share 0"}
			}
			if from+to != "LHRJFK" {
				wantShort = []string{"15 share 0"}
			}
			checkIs(t, list(way(days(newYear, newYear+9), from, to)), wantLong...)
			checkIs(t, list(way(days(newYear+10, newYear+12), from, to)), wantShort...)
			// Some of the days have the stops only.
			checkIs(t, list(way(days(newYear, newYear+12), from, to)), wantShort...)
			checkIs(t, list(way(days(newYear+9, newYear+10), from, to)), wantShort...)
			// No flight has no stops, which is another violation.
			checkIs(t, list(way(days(newYear+13, newYear+20), from, to)), "7 share 0")
			checkIs(t, list(way(days(newYear, newYear+13), from, to)), append([]string{"7 share 0"}, wantShort...)...)
			checkIs(t, list(way(days(newYear-1, newYear), from, to)), append([]string{"7 share 0"}, wantLong...)...)
		}
	}
}

func TestCheckOfAirportsOnSomeDays(t *testing.T) {
	// The stops are not there on the first day, on the last one, on one between, on all.
	for _, c := range []struct {
		long []api.Period
		want []string
	}{
		{[]api.Period{days(newYear, newYear+6)}, nil}, {[]api.Period{days(newYear+1, newYear+6)}, []string{"15 share 0"}}, {[]api.Period{days(newYear, newYear+5)}, []string{"15 share 0"}},
		{[]api.Period{days(newYear, newYear+2), days(newYear+4, newYear+6)}, []string{"15 share 0"}}, {[]api.Period{some(newYear, newYear+6, 63)}, []string{"15 share 0"}}, {nil, []string{"15 share 0"}},
	} {
		var l []api.Flight
		for _, p := range c.long {
			l = append(l, long("BA", 2, p))
		}
		for _, p := range days7() {
			if _, ok := schedule.On(l, "BA", 2, p.From); !ok {
				l = append(l, short("BA", 2, p))
			}
		}
		for _, ends := range [][2]string{{"CDG", "LHR"}, {"LHR", "SFO"}, {"JFK", "SFO"}, {"CDG", "SFO"}} {
			checkIn(t, l, list(way(days(newYear, newYear+6), ends[0], ends[1])), c.want...)
		}
		checkIn(t, l, list(af(days(newYear, newYear+6))))
	}
	// Of two flights on a day, which no right timetable has, the first one counts, as schedule.On finds it.
	checkIn(t, []api.Flight{long("BA", 2, one(newYear)), short("BA", 2, one(newYear))}, list(way(one(newYear), "CDG", "SFO")))
	checkIn(t, []api.Flight{short("BA", 2, one(newYear)), long("BA", 2, one(newYear))}, list(way(one(newYear), "CDG", "SFO")), "15 share 0")
	// Legs in the other direction on some days.
	back := short("BA", 2, one(newYear+1))
	back.Legs = []api.Leg{{From: "JFK", To: "LHR", Dep: 500, Arr: 1600, Equip: "777"}}
	l := []api.Flight{short("BA", 2, one(newYear)), back}
	checkIn(t, l, list(af(days(newYear, newYear+1))), "15 share 0")
	checkIn(t, l, list(way(days(newYear, newYear+1), "JFK", "LHR")), "15 share 0")
	checkIn(t, l, list(af(one(newYear)), way(one(newYear+1), "JFK", "LHR")))
}

// days7 returns the days of a week, each one as a period.
func days7() []api.Period {
	var l []api.Period
	for day := newYear; day < newYear+7; day++ {
		l = append(l, one(day))
	}
	return l
}

func TestCheckOfFlightsOfTheCarrier(t *testing.T) {
	// AF 10 is operated from newYear+2 to newYear+4.
	for _, c := range []struct {
		p     api.Period
		twice bool
	}{
		{days(newYear, newYear+1), false}, {days(newYear, newYear+2), true}, {days(newYear+3, newYear+3), true}, {days(newYear+4, newYear+9), true}, {days(newYear+5, newYear+9), false},
		{days(newYear, newYear+9), true}, {some(newYear, newYear+9, 4), false}, {some(newYear, newYear+9, 64), true}, {some(newYear+5, newYear+12, 64), false}, {days(newYear+2, newYear+4), true},
	} {
		if c.twice {
			checkIs(t, list(called("AF", 10, af(c.p))), "6 share 0")
		} else {
			checkIs(t, list(called("AF", 10, af(c.p))))
		}
		checkIs(t, list(called("AF", 100, af(c.p))))
		checkIs(t, list(called("AA", 10, af(c.p))))
		checkIs(t, list(called("AF", 1, af(c.p)), called("A1", 10, af(c.p))))
	}
	// The number of the flight that is shared is one of another carrier.
	checkIs(t, list(called("AF", 2, af(days(newYear, newYear+12)))))
	// A flight of the carrier and an earlier share on the same day are one violation.
	checkIs(t, list(called("AF", 10, af(one(newYear+2))), called("AF", 10, af(one(newYear+2)))), "6 share 0", "6 share 1")
	checkIs(t, list(called("AF", 10, af(days(newYear, newYear+1))), called("AF", 10, af(days(newYear+1, newYear+2)))), "6 share 1")
	checkIs(t, list(called("AF", 10, af(days(newYear, newYear+2))), called("AF", 10, af(days(newYear+4, newYear+5))), called("AF", 10, af(one(newYear+5)))), "6 share 0", "6 share 1", "6 share 2")
}

func TestCheckOfTwoShares(t *testing.T) {
	for _, c := range []struct {
		a, b  api.Period
		twice bool
	}{
		{days(newYear, newYear+2), days(newYear+5, newYear+9), false}, {days(newYear, newYear+2), days(newYear+3, newYear+9), false}, {one(newYear), one(newYear + 1), false}, {one(newYear), one(newYear + 7), false},
		{days(newYear, newYear+2), days(newYear+2, newYear+9), true}, {days(newYear, newYear+9), one(newYear + 4), true}, {one(newYear), one(newYear), true}, {days(newYear, newYear+9), days(newYear, newYear+9), true},
		{some(newYear, newYear+12, 64), some(newYear+3, newYear+9, 65), true}, {some(newYear, newYear+9, 8), some(newYear, newYear+9, 24), true},
		// They overlap without a weekday in common, or with one that is not on the days in common.
		{some(newYear, newYear+9, 63), some(newYear, newYear+9, 64), false}, {some(newYear, newYear+12, 85), some(newYear, newYear+12, 42), false}, {some(newYear, newYear+6, 3), some(newYear+6, newYear+12, 1), false},
		{some(newYear, newYear+7, 8), some(newYear+1, newYear+6, 8), false}, {some(newYear, newYear+3, 1), days(newYear, newYear+3), false},
	} {
		var want []string
		if c.twice {
			want = []string{"6 share 1"}
		}
		for _, other := range []api.Share{af(c.b), of("BA", 2, way(c.b, "LHR", "JFK"))} {
			checkIs(t, list(af(c.a), other), want...)
			checkIs(t, list(other, af(c.a)), want...)
		}
		// The same days of others do not matter.
		for _, other := range []api.Share{called("AA", 900, af(c.b)), called("AF", 901, af(c.b)), called("AF", 9, af(c.b)), called("FA", 900, af(c.b)), called("XX", 10, af(c.b))} {
			checkIs(t, list(af(c.a), other))
			checkIs(t, list(other, af(c.a)))
		}
		// The airports and the flight that are sold do not make a difference.
		p := c.b
		l := []api.Flight{long("BA", 2, days(newYear-9, newYear+20)), long("XX", 3, days(newYear-9, newYear+20))}
		checkIn(t, l, list(af(c.a), way(p, "CDG", "SFO")), want...)
		checkIn(t, l, list(af(c.a), of("XX", 3, af(p))), want...)
	}
}

func TestCheckOfThreeShares(t *testing.T) {
	early, late, both := days(newYear, newYear+4), days(newYear+5, newYear+9), days(newYear+4, newYear+5)
	checkIs(t, list(af(early), af(late), af(both)), "6 share 2")
	checkIs(t, list(af(early), af(late), af(one(newYear+4))), "6 share 2")
	checkIs(t, list(af(early), af(late), af(one(newYear+9))), "6 share 2")
	checkIs(t, list(af(early), af(late), af(one(newYear+10))))
	checkIs(t, list(af(early), af(both), af(late)), "6 share 1", "6 share 2")
	checkIs(t, list(af(both), af(early), af(late)), "6 share 1", "6 share 2")
	checkIs(t, list(af(early), af(early), af(early)), "6 share 1", "6 share 2")
	checkIs(t, list(af(early), called("XX", 900, af(early)), af(early)), "6 share 2")
	checkIs(t, list(called("XX", 900, af(early)), af(early), called("XX", 900, af(both))), "6 share 2")
	// A share that is not right otherwise has its days all the same.
	checkIs(t, list(of("BA", 3, af(early)), af(early)), "7 share 0", "6 share 1")
	checkIs(t, list(way(early, "JFK", "LHR"), af(early)), "15 share 0", "6 share 1")
	checkIs(t, list(of("ba", 2, af(early)), af(early)), "5 share 0", "7 share 0", "6 share 1")
	checkIs(t, list(called("", -1, af(early)), called("", -1, af(early)), called("", -2, af(early))), "5 share 0", "2 share 0", "5 share 1", "2 share 1", "6 share 1", "5 share 2", "2 share 2")
	// Names that are equal only if they are cut, or written without a space.
	checkIs(t, list(called("AF", 11, af(early)), called("AF1", 1, af(early)), called("AF", 1<<32+11, af(early)), called("af", 11, af(early))), "5 share 1", "2 share 2", "5 share 3")
}

func TestCheckOfSeveralViolations(t *testing.T) {
	week := days(newYear, newYear+6)
	// All that can be violated together, in their order.
	bad := called("af", 0, way(days(newYear-1, newYear), "JFK", "LHR"))
	checkIs(t, list(bad, bad), "5 share 0", "2 share 0", "7 share 0", "15 share 0", "5 share 1", "2 share 1", "7 share 1", "15 share 1", "6 share 1")
	same := called("BA", 0, way(days(newYear-1, newYear), "JFK", "LHR"))
	checkIs(t, list(same, same), "2 share 0", "8 share 0", "7 share 0", "15 share 0", "2 share 1", "8 share 1", "7 share 1", "15 share 1", "6 share 1")
	zero := api.Share{Period: week}
	checkIs(t, list(zero, zero), "5 share 0", "2 share 0", "8 share 0", "7 share 0", "5 share 1", "2 share 1", "8 share 1", "7 share 1", "6 share 1")
	checkIs(t, list(api.Share{}), "5 share 0", "2 share 0", "8 share 0", "2 share 0")
	// The example of two shares, with right ones between.
	checkIs(t, list(af(week), called("AF", 901, of("BA", 3, af(week))), called("AF", 902, af(week)), way(week, "SFO", "CDG")), "7 share 1", "15 share 3", "6 share 3")
}

func TestCheckOfManyShares(t *testing.T) {
	// One number, a flight and a share a day: all days but the last one.
	var l []api.Flight
	var shares []api.Share
	for day := range lastDay {
		l = append(l, short("BA", 2, one(day)))
		shares = append(shares, af(one(day)))
	}
	if got := Check(world(), l, shares); len(got) > 0 {
		t.Error(got)
	}
	shares = append(shares, af(one(lastDay)), af(one(0)), af(one(lastDay)))
	want := []api.Fault{{Err: api.ErrNone, At: "share 36524"}, {Err: api.ErrTwice, At: "share 36525"}, {Err: api.ErrNone, At: "share 36526"}, {Err: api.ErrTwice, At: "share 36526"}}
	if got := Check(world(), l, shares); !slices.Equal(got, want) {
		t.Error(got)
	}
}

// kit returns shares of several names and flights, with different days, airports and violations, of which lists are made.
func kit() []api.Share {
	week, later := days(newYear, newYear+6), days(newYear+7, newYear+9)
	return []api.Share{
		af(week), way(week, "CDG", "SFO"), af(days(newYear+6, newYear+8)), way(later, "JFK", "SFO"), af(days(newYear+9, newYear+10)), way(days(newYear+9, newYear+10), "JFK", "SFO"),
		af(some(newYear, newYear+9, 63)), af(some(newYear-3, newYear+9, 64)), af(days(newYear+12, newYear+13)), af(days(newYear+1, newYear)), {}, way(week, "JFK", "LHR"), way(later, "LHR", "LON"),
		of("9W", 2, af(some(newYear, newYear+9, 85))), of("9W", 2, af(later)), called("AF", 10, af(week)), called("AF", 10, af(later)), called("XX", 900, way(later, "LHR", "SFO")),
		called("XX", 900, of("AF", 10, af(days(newYear+2, newYear+4)))), called("XX", 900, of("AF", 900, af(week))), called("BA", 2, of("9W", 2, af(week))), called("af", 0, af(week)),
	}
}

// lists calls f with all lists of up to two shares of kit, and with a third one where there are to be three.
func lists(three bool, f func(shares []api.Share)) {
	f(nil)
	for _, a := range kit() {
		f(list(a))
		for _, b := range kit() {
			f(list(a, b))
			for _, c := range kit() {
				if three {
					f(list(a, b, c))
				}
			}
		}
	}
}

// stops reports whether a flight has a stop before another, by the definition.
func stops(f api.Flight, from, to string) bool {
	for i := range f.Legs {
		for k := i; k < len(f.Legs); k++ {
			if f.Legs[i].From == from && f.Legs[k].To == to {
				return true
			}
		}
	}
	return false
}

// violations returns the violations of shares of kit, by the definition.
func violations(l []api.Flight, shares []api.Share) []api.Fault {
	var faults []api.Fault
	carriers := []string{"AF", "BA", "9W", "XX"}
	for i, s := range shares {
		add := func(e api.Errno, violated bool) {
			if violated {
				faults = append(faults, api.Fault{Err: e, At: "share " + strconv.Itoa(i)})
			}
		}
		none, leg, twice := false, false, false
		for day := newYear - 9; day < newYear+20; day++ {
			if !period.Has(s.Period, day) {
				continue
			}
			f, ok := schedule.On(l, s.Operating, s.As, day)
			none = none || !ok
			leg = leg || ok && !stops(f, s.From, s.To)
			_, ok = schedule.On(l, s.Carrier, s.Number, day)
			twice = twice || ok
			for _, earlier := range shares[:i] {
				twice = twice || earlier.Carrier == s.Carrier && earlier.Number == s.Number && period.Has(earlier.Period, day)
			}
		}
		add(api.ErrName, !slices.Contains(carriers, s.Carrier) || !slices.Contains(carriers, s.Operating))
		add(api.ErrArg, s.Number < 1 || s.Number > 9999 || s.As < 1 || s.As > 9999)
		add(api.ErrKind, s.Carrier == s.Operating)
		add(period.Check(s.Period), period.Check(s.Period) != api.OK)
		add(api.ErrNone, none)
		add(api.ErrLeg, leg)
		add(api.ErrTwice, twice)
	}
	return faults
}

func TestCheckIsAsDefined(t *testing.T) {
	l := table()
	right := 0
	seen := make(map[api.Errno]int)
	lists(true, func(shares []api.Share) {
		got, want := Check(world(), l, shares), violations(l, shares)
		if !slices.Equal(got, want) {
			t.Fatalf("Check(.., %v) = %v, not %v", shares, got, want)
		}
		if len(want) == 0 {
			right++
		}
		for _, x := range want {
			seen[x.Err]++
		}
	})
	for _, e := range []api.Errno{api.ErrName, api.ErrArg, api.ErrKind, api.ErrDay, api.ErrNone, api.ErrLeg, api.ErrTwice} {
		if right < 100 || seen[e] < 100 {
			t.Errorf("%d lists are right, %d have %d", right, seen[e], e)
		}
	}
}

// P9.2

// seg returns a segment on newYear, whose times are none of a flight.
func seg(carrier string, number int, from, to string) api.Seg {
	return api.Seg{Carrier: carrier, Number: number, Day: newYear, From: from, To: to, Dep: 12345, Arr: -7}
}

func TestOperatingOfExample(t *testing.T) {
	s := seg("AF", 900, "LHR", "JFK")
	s.Dep, s.Arr = newYear*1440+500, newYear*1440+1000
	want := s
	want.Carrier, want.Number = "BA", 2
	if got := Operating(list(af(one(newYear))), s); got != want {
		t.Error(got)
	}
}

func TestOperatingOfChanges(t *testing.T) {
	shares := list(called("XX", 900, of("9W", 1, af(one(newYear)))), af(some(newYear, newYear+13, 40)), called("AF", 901, of("9W", 2, af(one(newYear)))), of("9W", 3, way(one(newYear), "LHR", "SFO")))
	s := seg("AF", 900, "LHR", "JFK")
	if got, want := Operating(shares, s), seg("BA", 2, "LHR", "JFK"); got != want {
		t.Error(got)
	}
	// The times do not matter, and are not changed.
	for _, change := range []func(s *api.Seg){
		func(s *api.Seg) { s.Dep, s.Arr = 0, 0 }, func(s *api.Seg) { s.Dep, s.Arr = math.MaxInt, math.MinInt }, func(s *api.Seg) { s.Day += 2 }, func(s *api.Seg) { s.Day += 7 }, func(s *api.Seg) { s.Day += 9 },
	} {
		other := s
		change(&other)
		want := other
		want.Carrier, want.Number = "BA", 2
		if got := Operating(shares, other); got != want {
			t.Errorf("Operating(.., %v) = %v", other, got)
		}
	}
	// With another carrier, number, day, From or To no share fits.
	for i, change := range []func(s *api.Seg){
		func(s *api.Seg) { s.Carrier = "BA" }, func(s *api.Seg) { s.Carrier = "af" }, func(s *api.Seg) { s.Carrier = "" }, func(s *api.Seg) { s.Carrier = "A" },
		func(s *api.Seg) { s.Number = 2 }, func(s *api.Seg) { s.Number = 899 }, func(s *api.Seg) { s.Number += 1 << 32 }, func(s *api.Seg) { s.Number = 0 },
		func(s *api.Seg) { s.Day++ }, func(s *api.Seg) { s.Day-- }, func(s *api.Seg) { s.Day -= 7 }, func(s *api.Seg) { s.Day += 14 }, func(s *api.Seg) { s.Day += 1 << 32 }, func(s *api.Seg) { s.Day = math.MinInt },
		func(s *api.Seg) { s.From = "CDG" }, func(s *api.Seg) { s.From = "" }, func(s *api.Seg) { s.From = "LON" }, func(s *api.Seg) { s.To = "LHR" }, func(s *api.Seg) { s.To = "" }, func(s *api.Seg) { s.To = "NYC" },
		func(s *api.Seg) { s.From, s.To = s.To, s.From }, func(s *api.Seg) { *s = api.Seg{} },
	} {
		other := s
		change(&other)
		if got := Operating(shares, other); got != other {
			t.Errorf("change %d: Operating(.., %v) = %v", i, other, got)
		}
	}
	// Segments that other shares fit.
	for want, other := range map[int]api.Seg{1: seg("XX", 900, "LHR", "JFK"), 2: seg("AF", 901, "LHR", "JFK"), 3: seg("AF", 900, "LHR", "SFO")} {
		if got := Operating(shares, other); got != seg("9W", want, other.From, other.To) {
			t.Error(other, got)
		}
	}
}

func TestOperatingOfSeveralShares(t *testing.T) {
	s := seg("AF", 900, "LHR", "JFK")
	for _, c := range []struct {
		shares []api.Share
		want   api.Seg
	}{
		{nil, s}, {list(), s}, {list(af(one(newYear + 1))), s}, {make([]api.Share, 3), s},
		// The first one that fits counts.
		{list(af(one(newYear)), of("9W", 7, af(one(newYear)))), seg("BA", 2, "LHR", "JFK")}, {list(of("9W", 7, af(one(newYear))), af(one(newYear))), seg("9W", 7, "LHR", "JFK")},
		{list(af(one(newYear+1)), of("9W", 7, af(one(newYear))), af(one(newYear))), seg("9W", 7, "LHR", "JFK")}, {list(way(one(newYear), "LHR", "SFO"), of("9W", 7, af(one(newYear)))), seg("9W", 7, "LHR", "JFK")},
		// What is operated is not sought again, neither among the shares before nor among those behind.
		{list(af(one(newYear)), called("BA", 2, of("9W", 7, af(one(newYear))))), seg("BA", 2, "LHR", "JFK")}, {list(called("BA", 2, of("9W", 7, af(one(newYear)))), af(one(newYear))), seg("BA", 2, "LHR", "JFK")},
		{list(of("AF", 900, af(one(newYear))), of("9W", 7, af(one(newYear)))), s},
		// Shares that are not right.
		{list(of("", -1, af(one(newYear)))), seg("", -1, "LHR", "JFK")}, {list(of("XX", 1<<32, af(one(newYear)))), seg("XX", 1<<32, "LHR", "JFK")},
	} {
		if got := Operating(c.shares, s); got != c.want {
			t.Errorf("Operating(%v, ..) = %v, not %v", c.shares, got, c.want)
		}
	}
	for _, p := range badPeriods() {
		if got := Operating(list(af(p)), s); got != s {
			t.Error(p, got)
		}
		if got := Operating(list(af(p), of("9W", 7, af(one(newYear)))), s); got != seg("9W", 7, "LHR", "JFK") {
			t.Error(p, got)
		}
	}
	for _, day := range oddDays() {
		other := s
		other.Day = day
		if got := Operating(list(af(days(newYear-9, newYear+9)), af(one(0)), af(one(lastDay))), other); got != other {
			t.Error(day, got)
		}
	}
	odd := api.Share{Period: one(newYear), Operating: "BA", As: 2}
	if got := Operating(list(odd), api.Seg{Day: newYear}); got != (api.Seg{Carrier: "BA", Number: 2, Day: newYear}) {
		t.Error(got)
	}
}

// findIs fails if Find does not return a segment with these times, counted from the beginning of the day.
func findIs(t *testing.T, shares []api.Share, carrier string, number, day int, from, to string, dep, arr int) {
	t.Helper()
	got, e := Find(world(), table(), shares, carrier, number, day, from, to)
	want := api.Seg{Carrier: carrier, Number: number, Day: day, From: from, To: to, Dep: day*1440 + dep, Arr: day*1440 + arr}
	if e != api.OK || got != want {
		t.Errorf("Find(.., %v, %q, %d, %d, %q, %q) = %v, %d, not %v", shares, carrier, number, day, from, to, got, e, want)
	}
}

// failIs fails if Find does not return this error.
func failIs(t *testing.T, shares []api.Share, carrier string, number, day int, from, to string, want api.Errno) {
	t.Helper()
	if got, e := Find(world(), table(), shares, carrier, number, day, from, to); e != want || got != (api.Seg{}) {
		t.Errorf("Find(.., %v, %q, %d, %d, %q, %q) = %v, %d, not %d", shares, carrier, number, day, from, to, got, e, want)
	}
}

func TestFindOfExample(t *testing.T) {
	// 9501 is a Monday.
	mondays := list(af(some(newYear, newYear+9, 1)))
	for day := newYear; day < newYear+10; day++ {
		if day == 9501 {
			findIs(t, mondays, "AF", 900, day, "LHR", "JFK", 500, 1000)
		} else {
			failIs(t, mondays, "AF", 900, day, "LHR", "JFK", api.ErrNone)
		}
	}
}

func TestFindOfDays(t *testing.T) {
	week := list(af(days(newYear, newYear+6)))
	for day, e := range map[int]api.Errno{newYear - 1: api.ErrNone, newYear: api.OK, newYear + 3: api.OK, newYear + 6: api.OK, newYear + 7: api.ErrNone, newYear + 12: api.ErrNone} {
		if e == api.OK {
			findIs(t, week, "AF", 900, day, "LHR", "JFK", 500, 1000)
		} else {
			failIs(t, week, "AF", 900, day, "LHR", "JFK", e)
		}
	}
	for _, day := range oddDays() {
		failIs(t, week, "AF", 900, day, "LHR", "JFK", api.ErrNone)
		failIs(t, week, "BA", 2, day, "LHR", "JFK", api.ErrNone)
	}
	for _, p := range badPeriods() {
		failIs(t, list(af(p)), "AF", 900, newYear, "LHR", "JFK", api.ErrNone)
	}
	// Around the summer time of London: JFK has none in this test.
	summer := list(of("BA", 9999, af(days(springEU-1, springEU))), of("BA", 9999, way(days(springEU-1, springEU), "CDG", "LHR")))
	findIs(t, summer, "AF", 900, springEU-1, "LHR", "JFK", 500, 1000)
	findIs(t, summer, "AF", 900, springEU, "LHR", "JFK", 440, 1000)
	findIs(t, summer, "AF", 900, springEU-1, "CDG", "LHR", 340, 420)
	findIs(t, summer, "AF", 900, springEU, "CDG", "LHR", 280, 360)
}

func TestFindOfSegments(t *testing.T) {
	times := map[string][2]int{"CDGLHR": {340, 420}, "CDGJFK": {340, 1000}, "CDGSFO": {340, 1480}, "LHRJFK": {500, 1000}, "LHRSFO": {500, 1480}, "JFKSFO": {1100, 1480}}
	for _, from := range codes() {
		for _, to := range codes() {
			shares := list(way(days(newYear, newYear+12), from, to))
			if at, ok := times[from+to]; ok {
				findIs(t, shares, "AF", 900, newYear+9, from, to, at[0], at[1])
				findIs(t, shares, "BA", 2, newYear+9, from, to, at[0], at[1])
				findIs(t, nil, "BA", 2, newYear+9, from, to, at[0], at[1])
			} else {
				failIs(t, shares, "AF", 900, newYear+9, from, to, api.ErrPlace)
				failIs(t, shares, "BA", 2, newYear+9, from, to, api.ErrPlace)
			}
			// On the day after, the flight has one leg.
			if from+to == "LHRJFK" {
				findIs(t, shares, "AF", 900, newYear+10, from, to, 500, 1000)
			} else {
				failIs(t, shares, "AF", 900, newYear+10, from, to, api.ErrPlace)
				// A segment that is not sold, between stops of the flight and between others.
				failIs(t, shares, "AF", 900, newYear+9, "LHR", "JFK", api.ErrNone)
			}
			failIs(t, nil, "AF", 900, newYear+9, from, to, api.ErrNone)
		}
	}
}

func TestFindOfFlights(t *testing.T) {
	all := days(newYear, newYear+20)
	// Without a share that fits, it is a flight of the timetable.
	findIs(t, list(af(all)), "AF", 10, newYear+2, "LHR", "JFK", 500, 1000)
	failIs(t, list(af(all)), "AF", 10, newYear+1, "LHR", "JFK", api.ErrNone)
	failIs(t, list(af(all)), "AF", 10, newYear+2, "CDG", "JFK", api.ErrPlace)
	failIs(t, list(af(all)), "XX", 10, newYear+2, "LHR", "JFK", api.ErrNone)
	failIs(t, list(af(all)), "", 0, newYear+2, "", "", api.ErrNone)
	// A share that fits is before a flight of the same name, even where it has an error.
	findIs(t, list(called("AF", 10, way(all, "CDG", "JFK"))), "AF", 10, newYear+2, "CDG", "JFK", 340, 1000)
	failIs(t, list(called("AF", 10, of("BA", 3, af(all)))), "AF", 10, newYear+2, "LHR", "JFK", api.ErrNone)
	failIs(t, list(called("BA", 2, of("AF", 10, way(all, "CDG", "JFK")))), "BA", 2, newYear+2, "CDG", "JFK", api.ErrPlace)
	failIs(t, list(called("BA", 2, of("AF", 10, way(all, "CDG", "JFK")))), "BA", 2, newYear+1, "CDG", "JFK", api.ErrNone)
	// A flight that is not operated on the day.
	failIs(t, list(af(all)), "AF", 900, newYear+13, "LHR", "JFK", api.ErrNone)
	// Of two shares that fit the first one counts, even where it has an error.
	two := list(of("BA", 9999, af(days(springEU-9, springEU+9))), of("BA", 2, af(days(springEU-9, springEU+9))), af(one(newYear)), of("BA", 1, af(one(newYear))), of("XX", 1, af(one(newYear+1))), af(one(newYear+1)))
	findIs(t, two, "AF", 900, springEU, "LHR", "JFK", 440, 1000)
	findIs(t, two, "AF", 900, newYear, "LHR", "JFK", 500, 1000)
	failIs(t, two, "AF", 900, newYear+1, "LHR", "JFK", api.ErrNone)
	// Shares are not followed from one to the next.
	failIs(t, list(called("XX", 1, of("AF", 900, af(all))), af(all)), "XX", 1, newYear, "LHR", "JFK", api.ErrNone)
	// Two different flights under one number.
	l := append(table(), api.Flight{Carrier: "XX", Number: 5, Period: all, Legs: []api.Leg{{From: "LHR", To: "JFK", Dep: 600, Arr: 800, Equip: "777"}}})
	for _, c := range []struct {
		shares []api.Share
		dep    int
	}{{list(af(all), of("XX", 5, af(all))), 500}, {list(of("XX", 5, af(all)), af(all)), 600}} {
		if s, e := Find(world(), l, c.shares, "AF", 900, newYear, "LHR", "JFK"); e != api.OK || s.Dep != newYear*1440+c.dep || s.Carrier != "AF" || s.Number != 900 {
			t.Error(c, s, e)
		}
	}
}

// soldIs fails if Sold does not return these segments, which are written like "AF 900 LHR JFK 500 1000".
func soldIs(t *testing.T, l []api.Flight, shares []api.Share, day int, want ...string) {
	t.Helper()
	got := []string{}
	for _, s := range Sold(world(), l, shares, day) {
		got = append(got, strings.Join([]string{s.Carrier, strconv.Itoa(s.Number), s.From, s.To, strconv.Itoa(s.Dep - day*1440), strconv.Itoa(s.Arr - day*1440)}, " "))
		if s.Day != day {
			t.Error(s)
		}
	}
	if !slices.Equal(got, want) {
		t.Errorf("Sold(.., %v, %d) = %q, not %q", shares, day, got, want)
	}
}

func TestSold(t *testing.T) {
	all := days(newYear, newYear+12)
	ba := []string{"BA 2 CDG LHR 340 420", "BA 2 CDG JFK 340 1000", "BA 2 CDG SFO 340 1480", "BA 2 LHR JFK 500 1000", "BA 2 LHR SFO 500 1480", "BA 2 JFK SFO 1100 1480"}
	shares := list(
		called("XX", 1, way(all, "JFK", "SFO")), af(some(newYear, newYear+12, 31)), called("XX", 2, of("BA", 3, af(all))), called("AA", 9, of("9W", 2, af(all))), called("XX", 3, way(all, "JFK", "LHR")),
		called("AF", 901, way(days(newYear+1, newYear), "LHR", "SFO")), called("AF", 902, way(one(newYear), "CDG", "SFO")))
	// 9498 is a Friday, 9499 a Saturday, and 9500 a Sunday.
	soldIs(t, table(), shares, newYear+1, slices.Concat(ba, []string{"9W 2 LHR JFK 500 1000", "XX 1 JFK SFO 1100 1480", "AF 900 LHR JFK 500 1000", "AA 9 LHR JFK 500 1000"})...)
	soldIs(t, table(), shares, newYear+2, slices.Concat(ba, []string{"AF 10 LHR JFK 500 1000", "XX 1 JFK SFO 1100 1480"})...)
	soldIs(t, table(), shares, newYear+3, slices.Concat(ba, []string{"AF 10 LHR JFK 500 1000", "9W 2 LHR JFK 500 1000", "XX 1 JFK SFO 1100 1480", "AA 9 LHR JFK 500 1000"})...)
	soldIs(t, table(), shares, newYear, slices.Concat(ba, []string{"BA 1 LHR JFK 500 1000", "XX 1 JFK SFO 1100 1480", "AF 900 LHR JFK 500 1000", "AF 902 CDG SFO 340 1480"})...)
	soldIs(t, table(), shares, newYear+11, "BA 2 LHR JFK 500 1000", "AF 900 LHR JFK 500 1000")
	// The order is that of the lists.
	backward := table()
	slices.Reverse(backward)
	slices.Reverse(shares)
	soldIs(t, backward, shares, newYear+1, slices.Concat([]string{"9W 2 LHR JFK 500 1000"}, ba, []string{"AA 9 LHR JFK 500 1000", "AF 900 LHR JFK 500 1000", "XX 1 JFK SFO 1100 1480"})...)
	// Days on which there is nothing: no flight, whatever the shares.
	soldIs(t, table(), shares, newYear+13)
	soldIs(t, table(), list(af(days(newYear, newYear+20))), newYear+13)
	soldIs(t, table(), shares, newYear-1)
	soldIs(t, nil, nil, newYear)
	soldIs(t, nil, shares, newYear)
	soldIs(t, table(), nil, newYear+10, "BA 2 LHR JFK 500 1000")
	for _, day := range oddDays() {
		soldIs(t, table(), shares, day)
	}
}

func TestSoldOfSharesThatAreNotRight(t *testing.T) {
	l := []api.Flight{short("BA", 2, days(newYear, newYear+9)), {Carrier: "XX", Number: 5, Period: days(newYear, newYear+9), Legs: []api.Leg{{From: "LHR", To: "JFK", Dep: 600, Arr: 800, Equip: "777"}}}}
	ba, xx := "BA 2 LHR JFK 500 1000", "XX 5 LHR JFK 600 1100"
	// A share that is there twice is sold twice; the first one of two that fit says what both sell.
	soldIs(t, l, list(af(one(newYear)), af(one(newYear))), newYear, ba, xx, "AF 900 LHR JFK 500 1000", "AF 900 LHR JFK 500 1000")
	soldIs(t, l, list(of("XX", 5, af(one(newYear))), af(days(newYear, newYear+1))), newYear, ba, xx, "AF 900 LHR JFK 600 1100", "AF 900 LHR JFK 600 1100")
	soldIs(t, l, list(of("XX", 5, af(one(newYear))), af(days(newYear, newYear+1))), newYear+1, ba, xx, "AF 900 LHR JFK 500 1000")
	soldIs(t, l, list(of("XX", 6, af(one(newYear))), af(one(newYear))), newYear, ba, xx)
	// A share under the name of a flight does not change the segments of the flight.
	soldIs(t, l, list(called("BA", 2, of("XX", 5, af(one(newYear))))), newYear, ba, xx, "BA 2 LHR JFK 600 1100")
	soldIs(t, l, list(called("", -1, of("XX", 5, af(one(newYear))))), newYear, ba, xx, " -1 LHR JFK 600 1100")
	for _, p := range badPeriods() {
		soldIs(t, l, list(af(p), called("XX", 7, af(one(newYear)))), newYear, ba, xx, "XX 7 LHR JFK 500 1000")
		// A share whose period does not have the day sells nothing, though a later one fits its name.
		soldIs(t, l, list(af(p), af(one(newYear))), newYear, ba, xx, "AF 900 LHR JFK 500 1000")
	}
}

// wanted calls f with segments of several names, days and airports: all that shares of kit sell, and others.
func wanted(f func(s api.Seg)) {
	for _, n := range []api.Seg{{Carrier: "AF", Number: 900}, {Carrier: "AF", Number: 10}, {Carrier: "XX", Number: 900}, {Carrier: "BA", Number: 2}, {Carrier: "9W", Number: 2}, {Carrier: "af"}, {Carrier: "AF", Number: 2}, {}} {
		for _, day := range []int{newYear - 1, newYear, newYear + 3, newYear + 6, newYear + 8, newYear + 9, newYear + 10, newYear + 13} {
			for _, ends := range [][2]string{{"LHR", "JFK"}, {"CDG", "SFO"}, {"JFK", "SFO"}, {"LHR", "SFO"}, {"JFK", "LHR"}, {"LHR", "LON"}, {"", ""}} {
				n.Day, n.From, n.To = day, ends[0], ends[1]
				f(n)
			}
		}
	}
}

// fitting returns what a share changes in a segment, by the definition.
func fitting(shares []api.Share, s api.Seg) api.Seg {
	for _, x := range shares {
		if x.Carrier == s.Carrier && x.Number == s.Number && x.From == s.From && x.To == s.To && slices.Contains(period.Days(x.Period), s.Day) {
			return api.Seg{Carrier: x.Operating, Number: x.As, Day: s.Day, From: s.From, To: s.To, Dep: s.Dep, Arr: s.Arr}
		}
	}
	return s
}

// found returns the segment that is sold, by the definition.
func found(l []api.Flight, shares []api.Share, s api.Seg) (api.Seg, api.Errno) {
	o := fitting(shares, s)
	seg, e := schedule.Seg(world(), l, o.Carrier, o.Number, s.Day, s.From, s.To)
	if e == api.OK {
		seg.Carrier, seg.Number = s.Carrier, s.Number
	}
	return seg, e
}

func TestOperatingAndFindAreAsDefined(t *testing.T) {
	l := table()
	count := make(map[api.Errno]int)
	lists(false, func(shares []api.Share) {
		wanted(func(s api.Seg) {
			if got, want := Operating(shares, s), fitting(shares, s); got != want {
				t.Fatalf("Operating(%v, %v) = %v, not %v", shares, s, got, want)
			}
			got, e := Find(world(), l, shares, s.Carrier, s.Number, s.Day, s.From, s.To)
			if want, wantE := found(l, shares, s); got != want || e != wantE {
				t.Fatalf("Find(%v, %v) = %v, %d, not %v, %d", shares, s, got, e, want, wantE)
			}
			count[e]++
		})
	})
	if count[api.OK] < 1000 || count[api.ErrNone] < 1000 || count[api.ErrPlace] < 1000 {
		t.Error(count)
	}
}

func TestSoldIsAsDefined(t *testing.T) {
	p, l := world(), table()
	lists(false, func(shares []api.Share) {
		for day := newYear - 4; day < newYear+14; day++ {
			var want []api.Seg
			for _, f := range l {
				if period.Has(f.Period, day) {
					segs, _ := flight.Segs(p, f, day)
					want = append(want, segs...)
				}
			}
			for _, s := range shares {
				if seg, e := found(l, shares, api.Seg{Carrier: s.Carrier, Number: s.Number, Day: day, From: s.From, To: s.To}); e == api.OK && period.Has(s.Period, day) {
					want = append(want, seg)
				}
			}
			if got := Sold(p, l, shares, day); !slices.Equal(got, want) {
				t.Fatalf("Sold(%v, %d) = %v, not %v", shares, day, got, want)
			}
		}
	})
}

// accepted calls f with all lists of shares of kit that Check accepts, and with one more.
func accepted(t *testing.T, f func(shares []api.Share)) {
	p, l := world(), table()
	n := 0
	more := list(of("BA", 9999, af(days(springEU-3, springEU+3))), called("XX", 1, of("BA", 9999, way(one(springEU), "CDG", "LHR"))))
	if x := Check(p, l, more); len(x) > 0 {
		t.Error(x)
	}
	f(more)
	lists(true, func(shares []api.Share) {
		if len(Check(p, l, shares)) == 0 {
			n++
			f(shares)
		}
	})
	if n < 100 {
		t.Errorf("%d lists are accepted", n)
	}
}

func TestFoundSegmentsHaveTheTimesOfThoseOperated(t *testing.T) {
	p, l := world(), table()
	accepted(t, func(shares []api.Share) {
		for _, x := range shares {
			for _, day := range period.Days(x.Period) {
				s, e := Find(p, l, shares, x.Carrier, x.Number, day, x.From, x.To)
				o, eo := schedule.Seg(p, l, x.Operating, x.As, day, x.From, x.To)
				if e != api.OK || eo != api.OK || s.Dep != o.Dep || s.Arr != o.Arr || s.Carrier != x.Carrier || s.Number != x.Number || Operating(shares, s) != o {
					t.Fatalf("%v on %d: %v, %d and %v, %d", x, day, s, e, o, eo)
				}
			}
		}
	})
}

// P9.3

// coverIs fails if Cover does not return the legs of BA 2 that depart from these airports, or if it returns another error.
func coverIs(t *testing.T, shares []api.Share, s api.Seg, want api.Errno, from ...string) {
	t.Helper()
	got, e := Cover(world(), table(), shares, s)
	ok := e == want && len(got) == len(from)
	for i := 0; ok && i < len(from); i++ {
		ok = got[i] == api.LegId{Carrier: "BA", Number: 2, Day: s.Day, From: from[i]}
	}
	if !ok {
		t.Errorf("Cover(.., %v, %v) = %v, %d, not %q, %d", shares, s, got, e, from, want)
	}
}

// timed returns a segment with times, counted from the beginning of its day.
func timed(carrier string, number, day int, from, to string, dep, arr int) api.Seg {
	return api.Seg{Carrier: carrier, Number: number, Day: day, From: from, To: to, Dep: day*1440 + dep, Arr: day*1440 + arr}
}

func TestCoverOfSegments(t *testing.T) {
	all := days(newYear, newYear+12)
	shares := list(way(all, "CDG", "LHR"), way(all, "CDG", "JFK"), way(all, "CDG", "SFO"), way(all, "LHR", "JFK"), way(all, "LHR", "SFO"), way(all, "JFK", "SFO"))
	for _, c := range []struct {
		from, to string
		dep, arr int
		legs     []string
	}{
		{"CDG", "LHR", 340, 420, []string{"CDG"}}, {"LHR", "JFK", 500, 1000, []string{"LHR"}}, {"JFK", "SFO", 1100, 1480, []string{"JFK"}},
		{"CDG", "JFK", 340, 1000, []string{"CDG", "LHR"}}, {"LHR", "SFO", 500, 1480, []string{"LHR", "JFK"}}, {"CDG", "SFO", 340, 1480, []string{"CDG", "LHR", "JFK"}},
	} {
		for _, day := range []int{newYear, newYear + 9} {
			// The segment that is operated, with and without shares, and the one that is sold.
			coverIs(t, nil, timed("BA", 2, day, c.from, c.to, c.dep, c.arr), api.OK, c.legs...)
			coverIs(t, shares, timed("BA", 2, day, c.from, c.to, c.dep, c.arr), api.OK, c.legs...)
			coverIs(t, shares, timed("AF", 900, day, c.from, c.to, c.dep, c.arr), api.OK, c.legs...)
			coverIs(t, nil, timed("AF", 900, day, c.from, c.to, c.dep, c.arr), api.ErrNone)
			coverIs(t, shares, timed("AF", 901, day, c.from, c.to, c.dep, c.arr), api.ErrNone)
			// Other times.
			for _, d := range [][2]int{{1, 0}, {-1, 0}, {0, 1}, {0, -1}, {60, 60}, {1 << 32, 0}, {0, 1 << 32}, {-c.dep, -c.arr}} {
				coverIs(t, shares, timed("AF", 900, day, c.from, c.to, c.dep+d[0], c.arr+d[1]), api.ErrTime)
				coverIs(t, shares, timed("BA", 2, day, c.from, c.to, c.dep+d[0], c.arr+d[1]), api.ErrTime)
			}
		}
		// On this day the flight has the leg from LHR to JFK only.
		if c.from+c.to == "LHRJFK" {
			coverIs(t, shares, timed("AF", 900, newYear+10, c.from, c.to, c.dep, c.arr), api.OK, "LHR")
		} else {
			coverIs(t, shares, timed("AF", 900, newYear+10, c.from, c.to, c.dep, c.arr), api.ErrPlace)
		}
	}
}

func TestErrorsOfCover(t *testing.T) {
	all := days(newYear, newYear+20)
	shares := list(af(all), way(all, "JFK", "LHR"), way(all, "XXX", ""), called("XX", 1, of("BA", 3, af(all))), called("XX", 2, of("AF", 900, af(all))))
	for _, c := range []struct {
		s    api.Seg
		want api.Errno
	}{
		{timed("AF", 900, newYear, "LHR", "JFK", 500, 1000), api.OK},
		// Days on which the flight is not operated, though the share has one of them; or the share does not have it.
		{timed("AF", 900, newYear+13, "LHR", "JFK", 500, 1000), api.ErrNone}, {timed("AF", 900, newYear-1, "LHR", "JFK", 500, 1000), api.ErrNone}, {timed("BA", 2, newYear+13, "LHR", "JFK", 500, 1000), api.ErrNone},
		{timed("BA", 2, newYear-1, "LHR", "JFK", 500, 1000), api.ErrNone}, {timed("AF", 900, newYear+13, "JFK", "LHR", 0, 0), api.ErrNone},
		// Airports between which the flight has no segment, though a share sells it, before other times.
		{timed("AF", 900, newYear, "JFK", "LHR", 500, 1000), api.ErrPlace}, {timed("AF", 900, newYear, "XXX", "", 500, 1000), api.ErrPlace}, {timed("BA", 2, newYear, "JFK", "LHR", 500, 1000), api.ErrPlace},
		{timed("BA", 2, newYear, "LHR", "LHR", 500, 1000), api.ErrPlace}, {timed("BA", 2, newYear, "", "", 500, 1000), api.ErrPlace}, {timed("BA", 2, newYear, "LHR", "XXX", 0, 0), api.ErrPlace},
		// Segments that are not sold.
		{timed("AF", 900, newYear, "LHR", "SFO", 500, 1480), api.ErrNone}, {timed("AF", 901, newYear, "LHR", "JFK", 500, 1000), api.ErrNone}, {timed("AA", 900, newYear, "LHR", "JFK", 500, 1000), api.ErrNone},
		{timed("XX", 1, newYear, "LHR", "JFK", 500, 1000), api.ErrNone}, {timed("XX", 2, newYear, "LHR", "JFK", 500, 1000), api.ErrNone}, {api.Seg{}, api.ErrNone},
		// Other times.
		{timed("AF", 900, newYear, "LHR", "JFK", 501, 1000), api.ErrTime}, {timed("AF", 900, newYear, "LHR", "JFK", 500, 999), api.ErrTime}, {timed("AF", 900, newYear+1, "LHR", "JFK", 500-1440, 1000-1440), api.ErrTime},
	} {
		got, e := Cover(world(), table(), shares, c.s)
		if e != c.want || (e == api.OK) != (len(got) == 1) || e != api.OK && len(got) > 0 {
			t.Errorf("Cover(.., %v) = %v, %d, not %d", c.s, got, e, c.want)
		}
	}
	for _, day := range oddDays() {
		coverIs(t, shares, timed("AF", 900, day, "LHR", "JFK", 500, 1000), api.ErrNone)
		coverIs(t, shares, timed("BA", 2, day, "LHR", "JFK", 500, 1000), api.ErrNone)
	}
	for _, p := range badPeriods() {
		coverIs(t, list(af(p)), timed("AF", 900, newYear, "LHR", "JFK", 500, 1000), api.ErrNone)
		coverIs(t, list(af(p)), timed("BA", 2, newYear, "LHR", "JFK", 500, 1000), api.OK, "LHR")
	}
}

func TestCoverOfSeveralShares(t *testing.T) {
	l := append(table(), short("XX", 5, days(newYear, newYear+9)))
	s := timed("AF", 900, newYear, "LHR", "JFK", 500, 1000)
	for _, c := range []struct {
		shares  []api.Share
		carrier string
		number  int
		want    api.Errno
	}{
		// The first one that fits counts, even where it has an error.
		{list(af(one(newYear)), of("XX", 5, af(one(newYear)))), "BA", 2, api.OK}, {list(of("XX", 5, af(one(newYear))), af(one(newYear))), "XX", 5, api.OK}, {list(of("XX", 6, af(one(newYear))), af(one(newYear))), "", 0, api.ErrNone},
		// One that does not fit does not count, and what is operated is not sought again.
		{list(of("XX", 5, af(one(newYear+1))), af(one(newYear))), "BA", 2, api.OK}, {list(af(one(newYear)), called("BA", 2, of("XX", 5, af(one(newYear))))), "BA", 2, api.OK},
		{list(called("BA", 2, of("XX", 5, af(one(newYear)))), af(one(newYear))), "BA", 2, api.OK}, {list(of("XX", 5, way(one(newYear), "LHR", "SFO")), af(one(newYear))), "BA", 2, api.OK},
	} {
		var want []api.LegId
		if c.want == api.OK {
			want = append(want, api.LegId{Carrier: c.carrier, Number: c.number, Day: newYear, From: "LHR"})
		}
		if got, e := Cover(world(), l, c.shares, s); e != c.want || !slices.Equal(got, want) {
			t.Errorf("Cover(.., %v, ..) = %v, %d, not %v, %d", c.shares, got, e, want, c.want)
		}
	}
	// A share under the name of a flight is before the flight.
	s.Carrier, s.Number = "BA", 2
	if got, e := Cover(world(), l, list(called("BA", 2, of("XX", 5, af(one(newYear))))), s); e != api.OK || len(got) != 1 || got[0].Carrier != "XX" || got[0].Number != 5 {
		t.Error(got, e)
	}
}

func TestCoverIsAsDefined(t *testing.T) {
	p, l := world(), table()
	count := make(map[api.Errno]int)
	lists(false, func(shares []api.Share) {
		wanted(func(s api.Seg) {
			// With the times of the segment, where there is one.
			if seg, e := found(l, shares, s); e == api.OK {
				s = seg
			}
			for _, late := range []int{0, 1} {
				s.Arr += late
				o := fitting(shares, s)
				var want []api.LegId
				wantE := api.ErrNone
				if f, ok := schedule.On(l, o.Carrier, o.Number, o.Day); ok {
					want, wantE = flight.Path(p, f, o)
				}
				got, e := Cover(p, l, shares, s)
				if e != wantE || !slices.Equal(got, want) {
					t.Fatalf("Cover(%v, %v) = %v, %d, not %v, %d", shares, s, got, e, want, wantE)
				}
				count[e]++
			}
		})
	})
	for _, e := range []api.Errno{api.OK, api.ErrNone, api.ErrPlace, api.ErrTime} {
		if count[e] < 1000 {
			t.Error(count)
		}
	}
}

func TestSegmentsCoverWhatTheirOperatingCovers(t *testing.T) {
	p, l := world(), table()
	accepted(t, func(shares []api.Share) {
		for _, day := range []int{newYear, newYear + 3, newYear + 8, newYear + 10, springEU} {
			for _, s := range Sold(p, l, shares, day) {
				o := Operating(shares, s)
				got, e := Cover(p, l, shares, s)
				want, wantE := Cover(p, l, shares, o)
				if e != api.OK || wantE != api.OK || len(got) == 0 || !slices.Equal(got, want) || got[0].Carrier != o.Carrier || got[0].Number != o.Number || !schedule.Operated(p, l, o) {
					t.Fatalf("%v: %v, %d; operated as %v: %v, %d", s, got, e, o, want, wantE)
				}
			}
		}
		for _, s := range []api.Seg{{}, seg("AF", 900, "LHR", "JFK"), seg("BA", 2, "JFK", "LHR"), seg("XX", 900, "LHR", "JFK")} {
			got, e := Cover(p, l, shares, s)
			if want, wantE := Cover(p, l, shares, Operating(shares, s)); e != wantE || e == api.OK || len(got)+len(want) > 0 {
				t.Fatalf("%v: %v, %d and %v, %d", s, got, e, want, wantE)
			}
		}
	})
}

// Rules R1, R2, R4 and R6

// oddTimetables returns timetables that are not right, besides right ones.
func oddTimetables() [][]api.Flight {
	odd := api.Leg{From: "LHR", To: "LHR", Dep: math.MinInt, Arr: math.MaxInt}
	week := days(newYear, newYear+6)
	all := [][]api.Flight{nil, table(), make([]api.Flight, 3), {{Carrier: "BA", Number: 2, Period: week, Legs: slices.Repeat([]api.Leg{odd}, 20)}}, {long("BA", 2, week), short("BA", 2, week)}}
	for _, p := range append(badPeriods(), week) {
		all = append(all, []api.Flight{{Period: p}, short("BA", 2, p), {Carrier: "BA", Number: math.MinInt, Period: p, Legs: []api.Leg{odd, {}, odd}}, long("AF", 900, p)})
	}
	return all
}

// oddPlaces returns places that are not right, besides right ones.
func oddPlaces() []api.Places {
	zone := api.Zone{Offset: math.MaxInt, Shifts: []api.Shift{{At: math.MaxInt, Offset: math.MaxInt}, {At: math.MinInt, Offset: math.MinInt}, {At: newYear * 1440, Offset: 841}}}
	return []api.Places{{}, world(), {Airports: make([]api.Airport, 3), Distances: make([]api.Distance, 3)}, {Airports: []api.Airport{{Code: "LHR", Zone: zone}, {Code: "JFK"}, {Code: "JFK", Zone: zone}, {Zone: zone}}}}
}

// oddShares returns lists of shares that are not right, besides right ones.
func oddShares() [][]api.Share {
	all := [][]api.Share{nil, kit(), make([]api.Share, 3)}
	for _, p := range append(badPeriods(), days(newYear, newYear+6)) {
		all = append(all, list(af(p), of("", math.MinInt, af(p)), called(strings.Repeat("BA", 1000), math.MaxInt, way(p, "", "LHRLHR")), of("AF", 900, af(p)), called("BA", 2, af(p)), api.Share{Period: p}))
	}
	return all
}

// oddSegs returns segments, of which most are none.
func oddSegs() []api.Seg {
	all := []api.Seg{{}, timed("AF", 900, newYear, "LHR", "JFK", 500, 1000), timed("BA", 2, newYear, "LHR", "JFK", 500, 1000), {Carrier: "BA", Number: 2, Day: newYear, From: "LHR", To: "LHR", Dep: math.MinInt, Arr: math.MaxInt}, {Day: newYear}}
	for _, day := range oddDays() {
		all = append(all, api.Seg{Carrier: "AF", Number: 900, Day: day, From: "LHR", To: "JFK"})
	}
	return all
}

// results calls all functions, and returns their results.
func results(p api.Places, l []api.Flight, shares []api.Share, s api.Seg) []any {
	seg, e := Find(p, l, shares, s.Carrier, s.Number, s.Day, s.From, s.To)
	legs, c := Cover(p, l, shares, s)
	return []any{Check(p, l, shares), Operating(shares, s), Sold(p, l, shares, s.Day), seg, e, legs, c}
}

func TestNothingPanicsAndResultsAreTheSameAgain(t *testing.T) {
	for _, p := range oddPlaces() {
		for _, l := range oddTimetables() {
			for i, shares := range oddShares() {
				all := oddSegs()
				for k := range 5 {
					s := all[(i+k*3)%len(all)]
					a, b := results(p, l, shares, s), results(p, l, shares, s)
					if !reflect.DeepEqual(a, b) {
						t.Fatalf("%v of %v and %v: %v and %v", s, l, shares, a, b)
					}
					if a[4] != api.OK && a[3] != (api.Seg{}) || a[6] != api.OK && len(a[5].([]api.LegId)) > 0 {
						t.Errorf("%v of %v and %v: a result with an error: %v", s, l, shares, a)
					}
				}
			}
		}
	}
}

// spare returns a copy of a list that has memory behind its end, which is a copy of its elements.
func spare[T any](l []T) []T { return append(slices.Clone(l), l...)[:len(l)] }

// memory returns a copy of all that can be reached from arguments, with the memory behind the ends of their lists.
func memory(p api.Places, l []api.Flight, shares []api.Share, s api.Seg) []any {
	whole := slices.Clone(l[:cap(l)])
	for i := range whole {
		whole[i].Legs = slices.Clone(whole[i].Legs[:cap(whole[i].Legs)])
	}
	airports := slices.Clone(p.Airports[:cap(p.Airports)])
	for i := range airports {
		airports[i].Zone.Shifts = slices.Clone(airports[i].Zone.Shifts[:cap(airports[i].Zone.Shifts)])
	}
	return []any{airports, slices.Clone(p.Distances[:cap(p.Distances)]), whole, slices.Clone(shares[:cap(shares)]), s}
}

func TestArgumentsAreNotModified(t *testing.T) {
	for _, l := range oddTimetables() {
		for _, shares := range oddShares() {
			p := world()
			p.Airports, p.Distances, l, shares = spare(p.Airports), spare(p.Distances), spare(l), spare(shares)
			for i := range p.Airports {
				p.Airports[i].Zone.Shifts = spare(p.Airports[i].Zone.Shifts)
			}
			for i := range l {
				l[i].Legs = spare(l[i].Legs)
			}
			for _, s := range oddSegs()[:3] {
				before := memory(p, l, shares, s)
				results(p, l, shares, s)
				if after := memory(p, l, shares, s); !reflect.DeepEqual(before, after) {
					t.Fatalf("an argument was modified: %v, %v", before, after)
				}
			}
		}
	}
}

func TestResultsAreNewMemory(t *testing.T) {
	p, l, shares := world(), table(), list(af(days(newYear, newYear+9)), af(one(newYear)))
	s := timed("AF", 900, newYear, "LHR", "JFK", 500, 1000)
	before := memory(p, l, shares, s)
	first := results(p, l, shares, s)
	for range 2 {
		clear(Check(p, l, shares))
		clear(Sold(p, l, shares, newYear))
		legs, _ := Cover(p, l, shares, s)
		clear(legs)
	}
	if !reflect.DeepEqual(before, memory(p, l, shares, s)) || !reflect.DeepEqual(first, results(p, l, shares, s)) {
		t.Error("changing a result changed an argument or another result")
	}
}
