package flight

import (
	"fmt"
	"math"
	"reflect"
	"slices"
	"strconv"
	"strings"
	"testing"

	"airline/api"
	"airline/calendar"
	"airline/period"
	"airline/places"
	"airline/text"
	"airline/zone"
)

const (
	// newYear is 2026-01-01, a Thursday.
	newYear = 9497
	// springUS is 2026-03-08, and springEU 2026-03-29: the Sundays on which summer time begins at 02:00 in New York, and at 01:00 UTC in London and Paris.
	springUS = 9563
	springEU = 9584
	// autumnEU is 2026-10-25, and autumnUS 2026-11-01: the Sundays on which it ends.
	autumnEU = 9794
	autumnUS = 9801
	everyDay = 127
)

// summer returns a zone with summer time in 2026, from and to a minute UTC.
func summer(offset, from, to int) api.Zone {
	return api.Zone{Offset: offset, Shifts: []api.Shift{{At: from, Offset: offset + 60}, {At: to, Offset: offset}}}
}

// world returns airports in zones with and without summer time, and at the edges of the offsets. The city MAN has the airport CDX, and the code MAN is that of an airport of the city MCR.
func world() api.Places {
	london := summer(0, springEU*1440+60, autumnEU*1440+60)
	paris := summer(60, springEU*1440+60, autumnEU*1440+60)
	newYork := summer(-300, springUS*1440+420, autumnUS*1440+360)
	return api.Places{
		Airports: []api.Airport{
			{Code: "LHR", City: "LON", Country: "GB", Zone: london}, {Code: "LGW", City: "LON", Country: "GB", Zone: london},
			{Code: "CDG", City: "PAR", Country: "FR", Zone: paris}, {Code: "NCE", City: "NCE", Country: "FR", Zone: paris},
			{Code: "JFK", City: "NYC", Country: "US", Zone: newYork}, {Code: "SIN", City: "SIN", Country: "SG", Zone: api.Zone{Offset: 480}},
			{Code: "AKL", City: "AKL", Country: "NZ", Zone: api.Zone{Offset: 840}}, {Code: "HNL", City: "HNL", Country: "US", Zone: api.Zone{Offset: -840}},
			{Code: "MAN", City: "MCR", Country: "GB", Zone: london}, {Code: "CDX", City: "MAN", Country: "GB"},
		},
		Distances: []api.Distance{{From: "LON", To: "PAR", Miles: 214}, {From: "LON", To: "NYC", Miles: 3458}},
	}
}

// leg returns a leg, to write it shortly.
func leg(from, to string, dep, arr int) api.Leg {
	return api.Leg{From: from, To: to, Dep: dep, Arr: arr, Equip: "777"}
}

// on returns the flight BA 117 on the days of a period.
func on(p api.Period, legs ...api.Leg) api.Flight {
	return api.Flight{Carrier: "BA", Number: 117, Period: p, Legs: legs}
}

// days returns a period with every weekday.
func days(from, to int) api.Period { return api.Period{From: from, To: to, Days: everyDay} }

// one, two and six return flights with so many legs.
func one() api.Flight { return on(days(newYear, newYear), leg("LHR", "JFK", 500, 700)) }

func two() api.Flight {
	return on(api.Period{From: newYear, To: newYear + 9, Days: 24}, leg("CDG", "LHR", 400, 420), leg("LHR", "JFK", 500, 700))
}

func six() api.Flight {
	f := on(days(newYear, newYear+365), leg("HNL", "JFK", -1440, -300), leg("JFK", "LHR", -200, 600), leg("LHR", "CDG", 700, 860),
		leg("CDG", "NCE", 920, 1000), leg("NCE", "SIN", 1020, 2300), leg("SIN", "AKL", 2400, 5759))
	f.Legs[2].Equip, f.Legs[4].Equip = "320", "A80"
	return f
}

// changed returns a flight with a change, and does not modify the flight itself.
func changed(f api.Flight, change func(f *api.Flight)) api.Flight {
	f.Legs = slices.Clone(f.Legs)
	change(&f)
	return f
}

// faults returns the violations that are written like "9 leg 0".
func faults(l ...string) []api.Fault {
	var f []api.Fault
	for _, s := range l {
		number, at, _ := strings.Cut(s, " ")
		n, _ := strconv.Atoi(number)
		f = append(f, api.Fault{Err: api.Errno(n), At: at})
	}
	return f
}

// brief writes a flight for a message, or its beginning if it is long.
func brief(f api.Flight) string {
	s := fmt.Sprint(f)
	return s[:min(len(s), 400)]
}

// checkIs fails if Check does not return these violations, in this order.
func checkIs(t *testing.T, f api.Flight, want ...string) {
	t.Helper()
	if got := Check(world(), f); !slices.Equal(got, faults(want...)) {
		var l []string
		for _, x := range got {
			l = append(l, text.Decimal(int(x.Err))+" "+x.At)
		}
		t.Errorf("Check(%s) = %q, not %q", brief(f), l, want)
	}
}

// badCarriers are texts that are not carriers.
func badCarriers() []string {
	return []string{"", "B", "BAW", "99", "00", "ba", "Ba", "bA", "B ", " B", "B-", "BA ", " BA", "Ä", "@A", "A[", "B/", "B:", "\xff\xff", "B\x00", strings.Repeat("BA", 1000)}
}

// badEquips are texts that are not codes of equipments.
func badEquips() []string {
	return []string{"", "7", "77", "7777", "77W ", " 77", "77 ", "7 7", "7x7", "a20", "A2o", "7-7", "Ä7", "€", "@77", "77[", "7/7", "77:", "\xff\xff\xff", "77\x00", strings.Repeat("777", 1000)}
}

// badAirports are texts that are not codes of airports of world. Some of them are cities, and some are not even codes.
func badAirports() []string {
	return []string{"", "XXX", "LON", "PAR", "NYC", "MCR", "LH", "LHRX", "lhr", "L1R", " LHR", "LHR ", "Ä1", "\xff\xff\xff", strings.Repeat("LHR", 1000)}
}

// badNumbers are no numbers of flights. Some of them are right in 16 or 32 bits.
func badNumbers() []int {
	return []int{0, -1, -117, -9999, 10000, 10001, 1 << 14, 1<<16 + 117, 1<<31 - 1, 1 << 31, 1 << 32, 1<<32 + 117, -1 << 32, -1<<32 + 117, math.MaxInt, math.MinInt, math.MinInt + 117}
}

// badMinutes are neither departures nor arrivals. Some of them are right in 16 or 32 bits.
func badMinutes() []int {
	return []int{-1441, -1442, -5759, 5760, 5761, 1<<16 + 500, 1<<31 - 1, 1 << 31, 1 << 32, 1<<32 + 500, -1 << 31, -1 << 32, -1<<32 + 500, math.MaxInt, math.MaxInt - 1, math.MinInt, math.MinInt + 1}
}

// badPeriods are periods with each error of period.Check, and two at once.
func badPeriods() []api.Period {
	return []api.Period{
		{}, {From: -1, To: 5, Days: 1}, {From: 6, To: 5, Days: 1}, {From: 0, To: api.MaxDay, Days: 1}, {From: math.MinInt, To: math.MaxInt, Days: 1},
		{From: 0, To: api.MaxSpan, Days: 1}, {From: 0, To: 5}, {From: 0, To: 5, Days: 128}, {From: 0, To: 5, Days: -1}, {From: newYear, To: newYear, Days: 1<<32 + 8},
		{From: 6, To: 5, Days: 128}, {From: 0, To: api.MaxSpan, Days: 128}, {From: -1, To: api.MaxSpan, Days: 0},
	}
}

// minuteUTC returns the first minute UTC whose local minute is a given one or greater, by trying all that are possible.
func minuteUTC(z api.Zone, local int) int {
	u := local - 841
	for zone.Local(z, u) < local {
		u++
	}
	return u
}

// dated returns the legs of a flight on a day, by the definition.
func dated(p api.Places, f api.Flight, day int) []api.Dated {
	var l []api.Dated
	for _, x := range f.Legs {
		d := api.Dated{Carrier: f.Carrier, Number: f.Number, Day: day, From: x.From, To: x.To, Equip: x.Equip}
		for _, a := range p.Airports {
			if a.Code == x.From {
				d.Dep = minuteUTC(a.Zone, day*1440+x.Dep)
			}
			if a.Code == x.To {
				d.Arr = minuteUTC(a.Zone, day*1440+x.Arr)
			}
		}
		l = append(l, d)
	}
	return l
}

// ordered reports whether the times of the legs of a flight are ordered on a day, by the definition.
func ordered(p api.Places, f api.Flight, day int) bool {
	l := dated(p, f, day)
	for i := range l {
		if l[i].Dep >= l[i].Arr || i > 0 && l[i].Dep < l[i-1].Arr {
			return false
		}
	}
	return true
}

// P7.1

func TestCheckOfRightFlights(t *testing.T) {
	for _, f := range []api.Flight{one(), two(), six()} {
		checkIs(t, f)
	}
	for _, carrier := range []string{"BA", "9W", "U2", "AA", "ZZ", "A0", "9Z"} {
		checkIs(t, changed(two(), func(f *api.Flight) { f.Carrier = carrier }))
	}
	for _, number := range []int{1, 2, 9998, 9999} {
		checkIs(t, changed(two(), func(f *api.Flight) { f.Number = number }))
	}
	for _, equip := range []string{"777", "A20", "ABC", "000", "999", "AAA", "ZZZ", "A0Z"} {
		checkIs(t, changed(two(), func(f *api.Flight) { f.Legs[1].Equip = equip }))
	}
	for _, p := range []api.Period{{From: 0, To: 0, Days: 32}, {From: 0, To: api.MaxSpan - 1, Days: 1}, days(api.MaxDay-1, api.MaxDay-1), days(api.MaxDay-api.MaxSpan, api.MaxDay-1)} {
		checkIs(t, changed(two(), func(f *api.Flight) { f.Period = p }))
	}
	// Each edge of the times.
	checkIs(t, on(days(newYear, newYear), leg("LHR", "LGW", -1440, 5759)))
	checkIs(t, on(days(newYear, newYear), leg("LHR", "LGW", -1440, -1439)))
	checkIs(t, on(days(newYear, newYear), leg("LHR", "LGW", 5758, 5759)))
	// The first and the last minutes of the calendar are no edges for the times.
	checkIs(t, on(days(0, 0), leg("AKL", "LHR", -1440, 0), leg("LHR", "LGW", 0, 60)))
	checkIs(t, on(days(0, 0), leg("AKL", "LHR", -1440, -1000), leg("LHR", "LGW", -1000, -999)))
	checkIs(t, on(days(api.MaxDay-1, api.MaxDay-1), leg("LHR", "HNL", 1439, 1440), leg("HNL", "AKL", 1440, 5759)))
	// An airport may be the only one of its city, or have the code of another city.
	checkIs(t, on(days(newYear, newYear), leg("NCE", "MAN", 60, 1)))
}

func TestCheckOfCarriersNumbersPeriods(t *testing.T) {
	for _, carrier := range badCarriers() {
		checkIs(t, changed(two(), func(f *api.Flight) { f.Carrier = carrier }), "5 carrier")
	}
	for _, number := range badNumbers() {
		checkIs(t, changed(two(), func(f *api.Flight) { f.Number = number }), "2 number")
	}
	seen := make(map[api.Errno]bool)
	for _, p := range badPeriods() {
		e := period.Check(p)
		seen[e] = true
		checkIs(t, changed(two(), func(f *api.Flight) { f.Period = p }), text.Decimal(int(e))+" period")
	}
	if len(seen) != 3 || seen[api.OK] {
		t.Errorf("badPeriods have the errors %v", seen)
	}
	checkIs(t, changed(two(), func(f *api.Flight) { f.Carrier, f.Number = "99", 0 }), "5 carrier", "2 number")
	checkIs(t, changed(two(), func(f *api.Flight) { f.Carrier, f.Period.Days = "", 0 }), "5 carrier", "2 period")
	checkIs(t, changed(two(), func(f *api.Flight) { f.Number, f.Period.To = 10000, newYear+800 }), "2 number", "4 period")
	checkIs(t, changed(two(), func(f *api.Flight) { f.Carrier, f.Number, f.Period.From = "b", -1, -1 }), "5 carrier", "2 number", "12 period")
}

func TestCheckOfNumbersOfLegs(t *testing.T) {
	checkIs(t, on(days(newYear, newYear)), "4 legs")
	checkIs(t, changed(one(), func(f *api.Flight) { f.Legs = []api.Leg{} }), "4 legs")
	checkIs(t, changed(six(), func(f *api.Flight) { f.Legs = append(f.Legs, leg("AKL", "LGW", 5759, 5759)) }), "4 legs")
	for _, n := range []int{1, 2, 3, 4, 5, 6} {
		checkIs(t, changed(six(), func(f *api.Flight) { f.Legs = f.Legs[:n] }))
		// A single violation of the last leg is found.
		checkIs(t, changed(six(), func(f *api.Flight) { f.Legs = f.Legs[:n]; f.Legs[n-1].Equip = "" }), "5 leg "+text.Decimal(n-1))
	}
	// What is wrong with the legs is not reported if their number is wrong, but what comes before is.
	for _, n := range []int{0, 7, 8, 100, 256 + 6, 1<<16 + 1} {
		f := on(api.Period{}, make([]api.Leg, n)...)
		checkIs(t, f, "2 period", "4 legs")
		f.Carrier, f.Number = "", 0
		checkIs(t, f, "5 carrier", "2 number", "2 period", "4 legs")
	}
}

func TestCheckOfLegs(t *testing.T) {
	for i := range 2 {
		at := text.Decimal(i)
		for _, equip := range badEquips() {
			checkIs(t, changed(two(), func(f *api.Flight) { f.Legs[i].Equip = equip }), "5 leg "+at)
		}
		for _, minute := range badMinutes() {
			checkIs(t, changed(two(), func(f *api.Flight) { f.Legs[i].Dep = minute }), "2 leg "+at)
			checkIs(t, changed(two(), func(f *api.Flight) { f.Legs[i].Arr = minute }), "2 leg "+at)
			checkIs(t, changed(two(), func(f *api.Flight) { f.Legs[i].Dep, f.Legs[i].Arr = minute, minute }), "2 leg "+at)
		}
	}
	for _, code := range badAirports() {
		checkIs(t, changed(two(), func(f *api.Flight) { f.Legs[0].From = code }), "14 leg 0")
		checkIs(t, changed(two(), func(f *api.Flight) { f.Legs[1].To = code }), "14 leg 1")
		checkIs(t, changed(two(), func(f *api.Flight) { f.Legs[0].To, f.Legs[1].From = code, code }), "14 leg 0", "14 leg 1")
		checkIs(t, changed(two(), func(f *api.Flight) { f.Legs[0].To = code }), "14 leg 0", "15 leg 1")
		checkIs(t, changed(two(), func(f *api.Flight) { f.Legs[1].From = code }), "14 leg 1", "15 leg 1")
	}
}

func TestCheckOfStops(t *testing.T) {
	// The departure of the first leg follows nothing.
	checkIs(t, changed(two(), func(f *api.Flight) { f.Legs[0].From = "SIN"; f.Legs[0].Dep = 800; f.Legs[0].Arr = 420 }))
	// A leg that does not continue the one before, though another one would.
	checkIs(t, changed(two(), func(f *api.Flight) { f.Legs[1].From = "LGW" }), "15 leg 1")
	checkIs(t, changed(six(), func(f *api.Flight) { f.Legs[3].From = "MAN" }), "15 leg 3")
	checkIs(t, changed(six(), func(f *api.Flight) { f.Legs[3], f.Legs[4] = f.Legs[4], f.Legs[3] }), "15 leg 3", "15 leg 4", "15 leg 5")
	// To is the From of the leg itself.
	checkIs(t, on(days(newYear, newYear), leg("LHR", "LHR", 0, 60)), "15 leg 0")
	checkIs(t, changed(two(), func(f *api.Flight) { f.Legs[1].To = "LHR" }), "15 leg 1")
	// To is the From of an earlier leg: of each one.
	stops := []string{"HNL", "JFK", "LHR", "CDG", "NCE", "SIN"}
	for i := range 6 {
		for k := range i + 1 {
			want := []string{"15 leg " + text.Decimal(i)}
			if i < 5 {
				want = append(want, "15 leg "+text.Decimal(i+1))
			}
			checkIs(t, changed(six(), func(f *api.Flight) { f.Legs[i].To = stops[k] }), want...)
		}
	}
	// To is the From of a later leg alone, which is a violation of the later one.
	checkIs(t, changed(six(), func(f *api.Flight) { f.Legs[0].To = "LHR" }), "15 leg 1")
	// Both rules about the order of the stops are violated by one leg: that is one violation.
	checkIs(t, on(days(newYear, newYear), leg("CDG", "LHR", 0, 60), leg("JFK", "CDG", 100, 900)), "15 leg 1")
	// To may be the To of an earlier leg only if the legs do not follow each other.
	checkIs(t, on(days(newYear, newYear), leg("CDG", "LHR", 0, 60), leg("JFK", "LHR", 100, 900)), "15 leg 1")
}

func TestCheckOfSeveralViolations(t *testing.T) {
	all := api.Leg{From: "XXX", To: "XXX", Dep: -1441, Arr: 5760, Equip: "7"}
	checkIs(t, on(days(newYear, newYear), all), "5 leg 0", "14 leg 0", "15 leg 0", "2 leg 0")
	checkIs(t, on(days(newYear, newYear), leg("CDG", "LHR", 0, 60), all), "5 leg 1", "14 leg 1", "15 leg 1", "2 leg 1")
	checkIs(t, on(days(newYear, newYear), all, all), "5 leg 0", "14 leg 0", "15 leg 0", "2 leg 0", "5 leg 1", "14 leg 1", "15 leg 1", "2 leg 1")
	checkIs(t, api.Flight{Legs: []api.Leg{all}}, "5 carrier", "2 number", "2 period", "5 leg 0", "14 leg 0", "15 leg 0", "2 leg 0")
	// Two of one leg, and both airports that are not known, which is one violation.
	checkIs(t, on(days(newYear, newYear), api.Leg{From: "XXX", To: "YYY", Dep: 0, Arr: 9, Equip: "77"}), "5 leg 0", "14 leg 0")
	checkIs(t, on(days(newYear, newYear), api.Leg{From: "LHR", To: "LHR", Dep: 0, Arr: 9, Equip: "77"}), "5 leg 0", "15 leg 0")
	checkIs(t, on(days(newYear, newYear), api.Leg{From: "LHR", To: "JFK", Dep: 0, Arr: 5760, Equip: "77"}), "5 leg 0", "2 leg 0")
	checkIs(t, on(days(newYear, newYear), leg("LON", "LON", 0, 9)), "14 leg 0", "15 leg 0")
	checkIs(t, on(days(newYear, newYear), leg("LON", "LHR", -9999, 9)), "14 leg 0", "2 leg 0")
	checkIs(t, on(days(newYear, newYear), leg("LHR", "LHR", -9999, 9)), "15 leg 0", "2 leg 0")
	// Times that are not ordered are not looked for if there is any other violation.
	late := func(f *api.Flight) { f.Legs[1].Arr = 0 }
	checkIs(t, changed(two(), late), "13 day 2026-01-01")
	checkIs(t, changed(two(), func(f *api.Flight) { late(f); f.Carrier = "B" }), "5 carrier")
	checkIs(t, changed(two(), func(f *api.Flight) { late(f); f.Number = 0 }), "2 number")
	checkIs(t, changed(two(), func(f *api.Flight) { late(f); f.Period.To += 800 }), "4 period")
	checkIs(t, changed(two(), func(f *api.Flight) { late(f); f.Legs[0].Equip = "" }), "5 leg 0")
}

func TestCheckOfTimes(t *testing.T) {
	year, winter := days(newYear, newYear+364), days(newYear, springUS-1)
	for _, c := range []struct {
		f    api.Flight
		want []string
	}{
		// The second example: arrival when it departs, and a minute earlier and later.
		{on(days(newYear, newYear), leg("LHR", "JFK", 500, 200)), []string{"13 day 2026-01-01"}},
		{on(days(newYear, newYear), leg("LHR", "JFK", 500, 199)), []string{"13 day 2026-01-01"}},
		{on(days(newYear, newYear), leg("LHR", "JFK", 500, 201)), nil},
		// It departs when, a minute before, and a minute after the leg before arrives.
		{on(days(newYear, newYear), leg("CDG", "LHR", 400, 420), leg("LHR", "JFK", 420, 700)), nil},
		{on(days(newYear, newYear), leg("CDG", "LHR", 400, 420), leg("LHR", "JFK", 419, 700)), []string{"13 day 2026-01-01"}},
		{on(days(newYear, newYear), leg("CDG", "LHR", 400, 420), leg("LHR", "JFK", 421, 700)), nil},
		// The times of the first, of a leg in the middle, and of the last leg.
		{on(winter, leg("CDG", "LHR", 400, 340), leg("LHR", "JFK", 420, 700), leg("JFK", "LGW", 800, 1600)), []string{"13 day 2026-01-01"}},
		{on(winter, leg("CDG", "LHR", 400, 420), leg("LHR", "JFK", 420, 120), leg("JFK", "LGW", 800, 1600)), []string{"13 day 2026-01-01"}},
		{on(winter, leg("CDG", "LHR", 400, 420), leg("LHR", "JFK", 420, 700), leg("JFK", "LGW", 800, 1100)), []string{"13 day 2026-01-01"}},
		{on(winter, leg("CDG", "LHR", 400, 420), leg("LHR", "JFK", 420, 700), leg("JFK", "LGW", 699, 1600)), []string{"13 day 2026-01-01"}},
		{on(winter, leg("CDG", "LHR", 400, 420), leg("LHR", "JFK", 420, 700), leg("JFK", "LGW", 700, 1600)), nil},
		// Before and after the beginning of summer time in New York the same leg takes 30 minutes, and -30.
		{on(winter, leg("LHR", "JFK", 500, 230)), nil},
		{on(year, leg("LHR", "JFK", 500, 230)), []string{"13 day 2026-03-08"}},
		{on(days(springUS+1, springEU-1), leg("LHR", "JFK", 500, 230)), []string{"13 day 2026-03-09"}},
		{on(days(springEU, autumnEU-1), leg("LHR", "JFK", 500, 230)), nil},
		// Between the ends of summer time the leg takes an hour less than it takes otherwise.
		{on(days(springEU, newYear+364), leg("JFK", "LHR", 0, 330)), nil},
		{on(days(springEU, newYear+364), leg("LHR", "JFK", 500, 230)), []string{"13 day 2026-10-25"}},
		{on(days(autumnEU, autumnUS), leg("CDG", "JFK", 500, 110)), []string{"13 day 2026-10-25"}},
		// A skipped local minute is that of the shift: on this day alone the leg arrives when it departs.
		{on(year, leg("CDG", "NCE", 150, 180)), []string{"13 day 2026-03-29"}},
		{on(days(springEU+1, newYear+364), leg("CDG", "NCE", 150, 180)), nil},
		{on(year, leg("CDG", "NCE", 120, 179)), []string{"13 day 2026-03-29"}},
		{on(year, leg("CDG", "NCE", 119, 179)), nil},
		{on(year, leg("CDG", "NCE", 150, 181)), nil},
		{on(year, leg("CDG", "NCE", 150+1440, 180+1440)), []string{"13 day 2026-03-28"}},
		{on(year, leg("CDG", "NCE", 150-1440, 180-1440)), []string{"13 day 2026-03-30"}},
		// Of a local minute that occurs twice the first one counts: it takes 30 minutes, as on other days.
		{on(days(autumnEU, autumnEU), leg("CDG", "NCE", 150, 180)), nil},
		{on(days(autumnEU, autumnEU), leg("CDG", "NCE", 130, 170)), nil},
		// 2026-03-29 is a Sunday, on which this flight is not operated.
		{on(api.Period{From: newYear, To: newYear + 364, Days: 63}, leg("CDG", "NCE", 150, 180)), nil},
		{on(api.Period{From: newYear, To: newYear + 364, Days: 64}, leg("CDG", "NCE", 150, 180)), []string{"13 day 2026-03-29"}},
		// The first day of the period is its first day that is operated; a period may have none.
		{on(api.Period{From: newYear, To: newYear + 6, Days: 4}, leg("LHR", "JFK", 500, 200)), []string{"13 day 2026-01-07"}},
		{on(api.Period{From: newYear, To: newYear + 5, Days: 4}, leg("LHR", "JFK", 500, 200)), nil},
		{on(days(0, 0), leg("LHR", "JFK", 500, 200)), []string{"13 day 2000-01-01"}},
		{on(days(api.MaxDay-1, api.MaxDay-1), leg("LHR", "JFK", 500, 200)), []string{"13 day 2099-12-31"}},
		// From one edge of the offsets to the other.
		{on(days(newYear, newYear), leg("HNL", "AKL", 0, 1680)), []string{"13 day 2026-01-01"}}, {on(days(newYear, newYear), leg("HNL", "AKL", 0, 1681)), nil},
		{on(days(newYear, newYear), leg("AKL", "HNL", 1440, -239)), nil}, {on(days(newYear, newYear), leg("AKL", "HNL", 1440, -240)), []string{"13 day 2026-01-01"}},
	} {
		checkIs(t, c.f, c.want...)
	}
}

func TestCheckTakesTheFirstAirport(t *testing.T) {
	p := api.Places{Airports: []api.Airport{{Code: "LHR", City: "LON", Country: "GB", Zone: api.Zone{Offset: 60}}, {Code: "LHR", City: "LON", Country: "GB", Zone: api.Zone{Offset: -60}}, {Code: "LGW", City: "LON", Country: "GB"}}}
	if l := Check(p, on(days(newYear, newYear), leg("LHR", "LGW", 60, 1))); len(l) != 0 {
		t.Error(l)
	}
	if l := Check(p, on(days(newYear, newYear), leg("LGW", "LHR", 0, 60))); !slices.Equal(l, faults("13 day 2026-01-01")) {
		t.Error(l)
	}
	if l := Check(api.Places{}, one()); !slices.Equal(l, faults("14 leg 0")) {
		t.Error(l)
	}
}

// violations returns the violations of a flight, by the definition.
func violations(p api.Places, f api.Flight) []api.Fault {
	var l []api.Fault
	add := func(violated bool, e api.Errno, at string) {
		if violated {
			l = append(l, api.Fault{Err: e, At: at})
		}
	}
	codes := make(map[string]bool)
	for _, a := range p.Airports {
		codes[a.Code] = true
	}
	add(!text.Carrier(f.Carrier), api.ErrName, "carrier")
	add(f.Number < 1 || f.Number > 9999, api.ErrArg, "number")
	add(period.Check(f.Period) != api.OK, period.Check(f.Period), "period")
	add(len(f.Legs) < 1 || len(f.Legs) > 6, api.ErrSize, "legs")
	if len(f.Legs) < 1 || len(f.Legs) > 6 {
		return l
	}
	for i, x := range f.Legs {
		at := "leg " + strconv.Itoa(i)
		back := false
		for k := 0; k <= i; k++ {
			back = back || f.Legs[k].From == x.To
		}
		add(!text.Code(x.Equip, 3, 3), api.ErrName, at)
		add(!codes[x.From] || !codes[x.To], api.ErrPlace, at)
		add(i > 0 && f.Legs[max(i-1, 0)].To != x.From || back, api.ErrLeg, at)
		add(x.Dep < -1440 || x.Dep > 5759 || x.Arr < -1440 || x.Arr > 5759, api.ErrArg, at)
	}
	if len(l) > 0 {
		return l
	}
	for _, day := range period.Days(f.Period) {
		if !ordered(p, f, day) {
			return []api.Fault{{Err: api.ErrTime, At: "day " + calendar.Print(day)}}
		}
	}
	return nil
}

// family calls f with many flights with up to three legs, right and wrong ones, around the beginning and the end of summer time.
func family(f func(f api.Flight)) {
	legs := []api.Leg{
		leg("CDG", "NCE", 150, 180), leg("CDG", "LHR", 60, 0), leg("CDG", "LHR", 60, 1), leg("NCE", "LHR", 180, 140), leg("NCE", "CDG", 180, 181), leg("LHR", "JFK", 140, -60),
		leg("LHR", "JFK", 90, -180), leg("LHR", "CDG", 1, 120), leg("JFK", "SIN", -90, 900), leg("JFK", "LHR", 120, 370), leg("JFK", "JFK", 0, 60), leg("LON", "JFK", 0, 60), leg("LHR", "JFK", 0, 5760), {From: "JFK", To: "LHR", Arr: 600},
	}
	periods := []api.Period{
		days(springUS-2, springUS+2), days(springEU-2, springEU+2), days(autumnEU-2, autumnEU+2), days(autumnUS-2, autumnUS+2), days(springUS, springEU),
		{From: springUS, To: springEU, Days: 64}, {From: springUS, To: springEU, Days: 63}, {From: springUS, To: springUS, Days: 1}, {From: 1, To: 0, Days: 1},
	}
	for _, p := range periods {
		f(on(p))
		for _, a := range legs {
			f(on(p, a))
			for _, b := range legs {
				f(on(p, a, b))
				for _, c := range legs {
					f(on(p, a, b, c))
				}
			}
		}
	}
}

func TestCheckIsAsDefined(t *testing.T) {
	p := world()
	count, right, times := 0, 0, 0
	family(func(f api.Flight) {
		got, want := Check(p, f), violations(p, f)
		if !slices.Equal(got, want) {
			t.Fatalf("Check(%v) = %v, not %v", f, got, want)
		}
		count++
		switch {
		case len(want) == 0:
			right++
		case want[0].Err == api.ErrTime:
			times++
		}
	})
	if count < 20000 || right < 100 || times < 100 {
		t.Errorf("of %d flights %d are right, and %d have times that are not ordered", count, right, times)
	}
}

// P7.2

func TestLegsOfExamples(t *testing.T) {
	l, e := Legs(world(), one(), newYear)
	want := []api.Dated{{Carrier: "BA", Number: 117, Day: newYear, From: "LHR", To: "JFK", Dep: 13676180, Arr: 13676680, Equip: "777"}}
	if e != api.OK || !slices.Equal(l, want) {
		t.Error(l, e)
	}
	l, e = Legs(world(), changed(two(), func(f *api.Flight) { f.Carrier, f.Number, f.Legs[0].Equip = "9W", 9999, "A20" }), newYear+1)
	day := (newYear + 1) * 1440
	want = []api.Dated{
		{Carrier: "9W", Number: 9999, Day: newYear + 1, From: "CDG", To: "LHR", Dep: day + 340, Arr: day + 420, Equip: "A20"},
		{Carrier: "9W", Number: 9999, Day: newYear + 1, From: "LHR", To: "JFK", Dep: day + 500, Arr: day + 1000, Equip: "777"},
	}
	if e != api.OK || !slices.Equal(l, want) {
		t.Error(l, e)
	}
	// From London at 22:00 to New York at 01:00, on the days before, of and after the beginnings of summer time.
	f := on(days(newYear, newYear+364), leg("LHR", "JFK", 1320, 1500))
	for _, c := range []struct{ day, dep, arr int }{
		{newYear, 1320, 1800}, {springUS - 1, 1320, 1800}, {springUS, 1320, 1740}, {springEU - 1, 1320, 1740}, {springEU, 1260, 1740},
		{autumnEU - 1, 1260, 1740}, {autumnEU, 1320, 1740}, {autumnUS - 1, 1320, 1740}, {autumnUS, 1320, 1800},
	} {
		l, e := Legs(world(), f, c.day)
		if e != api.OK || len(l) != 1 || l[0].Day != c.day || l[0].Dep != c.day*1440+c.dep || l[0].Arr != c.day*1440+c.arr {
			t.Error(c, l, e)
		}
	}
	// A departure that is skipped, and one that occurs twice.
	f = on(days(newYear, newYear+364), leg("CDG", "AKL", 150, 5000))
	for _, c := range []struct{ day, dep int }{{springEU, 60}, {springEU + 1, 30}, {autumnEU, 30}, {autumnEU + 1, 90}} {
		if l, e := Legs(world(), f, c.day); e != api.OK || l[0].Dep != c.day*1440+c.dep {
			t.Error(c, l, e)
		}
	}
}

// operated returns flights, and days around and inside of their periods.
func operated() ([]api.Flight, []int) {
	flights := []api.Flight{
		one(), two(), six(), on(days(springEU-1, springEU+1), leg("LHR", "CDG", 60, 181), leg("CDG", "JFK", 190, 700)),
		on(api.Period{From: autumnEU, To: autumnUS, Days: 64}, leg("LHR", "CDG", 60, 181), leg("CDG", "JFK", 190, 700), leg("JFK", "HNL", 800, 801)),
		on(days(0, 0), leg("AKL", "LHR", -1440, 0)), on(days(api.MaxDay-1, api.MaxDay-1), leg("LHR", "HNL", 0, 5759)),
		on(api.Period{From: newYear, To: newYear, Days: 1}, leg("LHR", "JFK", 500, 700)),
	}
	var l []int
	for _, f := range flights {
		l = append(l, f.Period.From-7, f.Period.From-1, f.Period.From, f.Period.From+1, f.Period.To-1, f.Period.To, f.Period.To+1, f.Period.To+7)
	}
	return flights, append(l, 0, -1, api.MaxDay, math.MinInt, math.MaxInt, 1<<32+newYear, -1<<32+newYear)
}

func TestLegsAndSegsAreAsDefined(t *testing.T) {
	p := world()
	flights, l := operated()
	for _, f := range flights {
		for _, day := range l {
			legs, e := Legs(p, f, day)
			segs, e2 := Segs(p, f, day)
			if !period.Has(f.Period, day) {
				if e != api.ErrDay || e2 != api.ErrDay || len(legs) != 0 || len(segs) != 0 {
					t.Errorf("on %d: %v, %v, %v, %v", day, legs, e, segs, e2)
				}
				continue
			}
			want := dated(p, f, day)
			var all []api.Seg
			for i := range want {
				for k := i; k < len(want); k++ {
					all = append(all, api.Seg{Carrier: f.Carrier, Number: f.Number, Day: day, From: want[i].From, To: want[k].To, Dep: want[i].Dep, Arr: want[k].Arr})
				}
			}
			if e != api.OK || !slices.Equal(legs, want) {
				t.Errorf("Legs(%v, %d) = %v, %v", f, day, legs, e)
			}
			if e2 != api.OK || !slices.Equal(segs, all) {
				t.Errorf("Segs(%v, %d) = %v, %v", f, day, segs, e2)
			}
		}
	}
}

func TestDaysOfLegsAndSegs(t *testing.T) {
	// Thursdays and Fridays of ten days.
	for _, c := range []struct {
		day int
		e   api.Errno
	}{
		{newYear - 7, api.ErrDay}, {newYear - 1, api.ErrDay}, {newYear, api.OK}, {newYear + 1, api.OK}, {newYear + 2, api.ErrDay}, {newYear + 6, api.ErrDay},
		{newYear + 7, api.OK}, {newYear + 8, api.OK}, {newYear + 9, api.ErrDay}, {newYear + 14, api.ErrDay}, {0, api.ErrDay}, {-1, api.ErrDay},
	} {
		if l, e := Legs(world(), two(), c.day); e != c.e || (e == api.OK) != (len(l) == 2) {
			t.Error(c, l, e)
		}
		if l, e := Segs(world(), two(), c.day); e != c.e || (e == api.OK) != (len(l) == 3) {
			t.Error(c, l, e)
		}
	}
	// No day is in a period that is not valid.
	for _, p := range badPeriods() {
		for _, day := range []int{p.From, p.To, 0, newYear} {
			if l, e := Legs(world(), on(p, leg("LHR", "JFK", 500, 700)), day); e != api.ErrDay || len(l) != 0 {
				t.Error(p, day, l, e)
			}
		}
	}
}

func TestSegsOfSixLegs(t *testing.T) {
	l, e := Segs(world(), six(), newYear+100)
	if e != api.OK || len(l) != 21 {
		t.Fatal(l, e)
	}
	var ways []string
	for _, s := range l {
		ways = append(ways, s.From+s.To)
	}
	const want = "HNLJFK HNLLHR HNLCDG HNLNCE HNLSIN HNLAKL JFKLHR JFKCDG JFKNCE JFKSIN JFKAKL LHRCDG LHRNCE LHRSIN LHRAKL CDGNCE CDGSIN CDGAKL NCESIN NCEAKL SINAKL"
	if got := strings.Join(ways, " "); got != want {
		t.Errorf("the segments are %v", got)
	}
}

// P7.3

func TestPathOfEachSegment(t *testing.T) {
	p := world()
	flights, l := operated()
	covered := make(map[int]int)
	for _, f := range flights {
		for _, day := range l {
			segs, _ := Segs(p, f, day)
			for i, first := 0, 0; first < len(f.Legs) && i < len(segs); first++ {
				for last := first; last < len(f.Legs); last++ {
					var want []api.LegId
					for _, x := range f.Legs[first : last+1] {
						want = append(want, api.LegId{Carrier: f.Carrier, Number: f.Number, Day: day, From: x.From})
					}
					if ids, e := Path(p, f, segs[i]); e != api.OK || !slices.Equal(ids, want) {
						t.Errorf("Path(%v, %v) = %v, %v", f, segs[i], ids, e)
					}
					covered[len(want)]++
					i++
				}
			}
		}
	}
	if len(covered) != 6 {
		t.Errorf("segments cover so many legs: %v", covered)
	}
}

func TestPlacesOfPath(t *testing.T) {
	p := world()
	codes := []string{"HNL", "JFK", "LHR", "CDG", "NCE", "SIN", "AKL", "LGW", "MAN", "LON", "XXX", "", "jfk"}
	for _, f := range []api.Flight{changed(six(), func(f *api.Flight) { f.Legs = f.Legs[:1] }), changed(six(), func(f *api.Flight) { f.Legs = f.Legs[:2] }), six()} {
		legs, _ := Legs(p, f, newYear+1)
		for i, from := range codes {
			for k, to := range codes {
				s := api.Seg{Carrier: f.Carrier, Number: f.Number, Day: newYear + 1, From: from, To: to, Dep: 1, Arr: 2}
				want := api.ErrPlace
				if i < k && k <= len(legs) {
					// The times are wrong, and then right.
					if ids, e := Path(p, f, s); e != api.ErrTime || len(ids) != 0 {
						t.Errorf("from %s to %s: %v, %v", from, to, ids, e)
					}
					s.Dep, s.Arr = legs[i].Dep, legs[k-1].Arr
					want = api.OK
				}
				if ids, e := Path(p, f, s); e != want || len(ids) != 0 && len(ids) != k-i || want == api.OK && len(ids) == 0 {
					t.Errorf("from %s to %s: %v, %v", from, to, ids, e)
				}
			}
		}
	}
}

// segChange makes a segment one that has an error of Path.
type segChange struct {
	e   api.Errno
	set func(s *api.Seg)
}

// segChanges returns changes of segments, by the order of their errors.
func segChanges() []segChange {
	return []segChange{
		{api.ErrNone, func(s *api.Seg) { s.Carrier = "BB" }}, {api.ErrNone, func(s *api.Seg) { s.Carrier = "" }},
		{api.ErrNone, func(s *api.Seg) { s.Number++ }}, {api.ErrNone, func(s *api.Seg) { s.Number += 1 << 32 }},
		{api.ErrDay, func(s *api.Seg) { s.Day = newYear - 1 }}, {api.ErrDay, func(s *api.Seg) { s.Day += 1 << 32 }},
		{api.ErrPlace, func(s *api.Seg) { s.From = "LGW" }}, {api.ErrPlace, func(s *api.Seg) { s.To = "LON" }},
		{api.ErrTime, func(s *api.Seg) { s.Dep++ }}, {api.ErrTime, func(s *api.Seg) { s.Dep -= 1 << 32 }},
		{api.ErrTime, func(s *api.Seg) { s.Arr-- }}, {api.ErrTime, func(s *api.Seg) { s.Arr += 1 << 32 }},
	}
}

func TestErrorsOfPath(t *testing.T) {
	p := world()
	for _, f := range []api.Flight{one(), two(), six()} {
		segs, _ := Segs(p, f, newYear)
		for _, s := range segs {
			for i, first := range segChanges() {
				for _, second := range segChanges()[i:] {
					x := s
					first.set(&x)
					if ids, e := Path(p, f, x); e != first.e || len(ids) != 0 {
						t.Errorf("Path(%v, %v) = %v, %d, not %d", f, x, ids, e, first.e)
					}
					second.set(&x)
					if ids, e := Path(p, f, x); e != first.e || len(ids) != 0 {
						t.Errorf("Path(%v, %v) = %v, %d, not %d", f, x, ids, e, first.e)
					}
				}
			}
		}
	}
	// The times of other legs, and of another day, are not those of the segment.
	f := two()
	segs, _ := Segs(p, f, newYear)
	for _, s := range []api.Seg{
		{From: "CDG", To: "JFK", Dep: segs[2].Dep, Arr: segs[1].Arr}, {From: "CDG", To: "JFK", Dep: segs[0].Dep, Arr: segs[0].Arr},
		{From: "LHR", To: "JFK", Dep: segs[0].Dep, Arr: segs[1].Arr}, {From: "CDG", To: "LHR", Dep: segs[0].Dep, Arr: segs[1].Arr},
		{From: "CDG", To: "LHR", Dep: segs[0].Dep + 1440, Arr: segs[0].Arr + 1440}, {From: "CDG", To: "LHR", Dep: newYear*1440 + 400, Arr: newYear*1440 + 420}, {From: "CDG", To: "LHR"},
	} {
		s.Carrier, s.Number, s.Day = f.Carrier, f.Number, newYear
		if ids, e := Path(p, f, s); e != api.ErrTime || len(ids) != 0 {
			t.Errorf("Path(%v) = %v, %v", s, ids, e)
		}
	}
}

// P7.4

func TestPrintOfExamples(t *testing.T) {
	for _, c := range []struct {
		f    api.Flight
		want string
	}{
		{one(), "BA 117 2026-01-01/2026-01-01/1234567 LHR JFK 500 700 777"},
		{changed(one(), func(f *api.Flight) { f.Period.Days = 8 }), "BA 117 2026-01-01/2026-01-01/4 LHR JFK 500 700 777"},
		{two(), "BA 117 2026-01-01/2026-01-10/45 CDG LHR 400 420 777 LHR JFK 500 700 777"},
		{six(), "BA 117 2026-01-01/2027-01-01/1234567 HNL JFK -1440 -300 777 JFK LHR -200 600 777 LHR CDG 700 860 320 CDG NCE 920 1000 777 NCE SIN 1020 2300 A80 SIN AKL 2400 5759 777"},
		// What is written need not be right for any places: not the airports, nor their order, nor the times.
		{api.Flight{Carrier: "9W", Number: 9999, Period: days(0, 799), Legs: []api.Leg{{From: "XXX", To: "XXX", Dep: 5759, Arr: -1440, Equip: "000"}}}, "9W 9999 2000-01-01/2002-03-10/1234567 XXX XXX 5759 -1440 000"},
		{api.Flight{Carrier: "U2", Number: 1, Period: days(api.MaxDay-1, api.MaxDay-1), Legs: []api.Leg{{From: "AAA", To: "ZZZ", Equip: "ABC"}, {From: "BBB", To: "AAA", Dep: -1, Arr: 9, Equip: "Z9A"}}}, "U2 1 2099-12-31/2099-12-31/1234567 AAA ZZZ 0 0 ABC BBB AAA -1 9 Z9A"},
	} {
		if s, e := Print(c.f); s != c.want || e != api.OK {
			t.Errorf("Print(%v) = %q, %v", c.f, s, e)
		}
		if f, e := Parse(c.want); !reflect.DeepEqual(f, c.f) || e != api.OK {
			t.Errorf("Parse(%q) = %v, %v", c.want, f, e)
		}
	}
}

// badFlight is a flight with an error of Print.
type badFlight struct {
	e api.Errno
	f api.Flight
}

// badFlights returns flights with each error of Print.
func badFlights() []badFlight {
	var l []badFlight
	add := func(e api.Errno, change func(f *api.Flight)) { l = append(l, badFlight{e, changed(two(), change)}) }
	for _, carrier := range badCarriers() {
		add(api.ErrName, func(f *api.Flight) { f.Carrier = carrier })
	}
	for _, number := range badNumbers() {
		add(api.ErrArg, func(f *api.Flight) { f.Number = number })
	}
	for _, p := range badPeriods() {
		add(period.Check(p), func(f *api.Flight) { f.Period = p })
	}
	for i := range 2 {
		for _, code := range []string{"", "LH", "LHRX", "lhr", "L1R", "123", "L R", "LHR ", " LHR", "Ä1", "@AA", "ZZ[", "\xff\xff\xff", "\"\"\""} {
			add(api.ErrName, func(f *api.Flight) { f.Legs[i].From = code })
			add(api.ErrName, func(f *api.Flight) { f.Legs[i].To = code })
		}
		for _, equip := range badEquips() {
			add(api.ErrName, func(f *api.Flight) { f.Legs[i].Equip = equip })
		}
		for _, minute := range badMinutes() {
			add(api.ErrArg, func(f *api.Flight) { f.Legs[i].Dep = minute })
			add(api.ErrArg, func(f *api.Flight) { f.Legs[i].Arr = minute })
		}
	}
	for _, n := range []int{0, 7, 8, 256 + 6, 1<<16 + 1} {
		add(api.ErrSize, func(f *api.Flight) { f.Legs = slices.Repeat(f.Legs[:1], n) })
	}
	add(api.ErrSize, func(f *api.Flight) { f.Legs = make([]api.Leg, 7) })
	return append(l, badFlight{api.ErrName, api.Flight{}})
}

func TestErrorsOfPrint(t *testing.T) {
	for _, c := range badFlights() {
		if s, e := Print(c.f); s != "" || e != c.e {
			t.Errorf("Print(%s) = %q, %d, not %d", brief(c.f), s, e, c.e)
		}
	}
}

// flightChange makes a flight one that has an error of Print.
type flightChange struct {
	e   api.Errno
	set func(f *api.Flight)
}

// flightChanges returns changes of flights with two legs, by the order of their errors.
func flightChanges() []flightChange {
	l := []flightChange{
		{api.ErrName, func(f *api.Flight) { f.Carrier = "99" }},
		{api.ErrArg, func(f *api.Flight) { f.Number = 0 }},
		{api.ErrDay, func(f *api.Flight) { f.Period.From = -1 }},
		{api.ErrSize, func(f *api.Flight) { f.Period.To = f.Period.From + 800 }},
		{api.ErrArg, func(f *api.Flight) { f.Period.Days = 128 }},
		{api.ErrSize, func(f *api.Flight) { f.Legs = append(f.Legs, make([]api.Leg, 5)...) }},
	}
	for i := range 2 {
		l = append(l, flightChange{api.ErrName, func(f *api.Flight) { f.Legs[i].From = "LH" }}, flightChange{api.ErrName, func(f *api.Flight) { f.Legs[i].To = "lhr" }},
			flightChange{api.ErrName, func(f *api.Flight) { f.Legs[i].Equip = "" }}, flightChange{api.ErrArg, func(f *api.Flight) { f.Legs[i].Dep = -1441 }}, flightChange{api.ErrArg, func(f *api.Flight) { f.Legs[i].Arr = 5760 }})
	}
	return l
}

func TestTwoErrorsOfPrint(t *testing.T) {
	for i, first := range flightChanges() {
		for _, second := range flightChanges()[i:] {
			f := changed(two(), first.set)
			second.set(&f)
			if s, e := Print(f); s != "" || e != first.e {
				t.Errorf("Print(%s) = %q, %d, not %d", brief(f), s, e, first.e)
			}
		}
	}
}

func TestErrorsOfParse(t *testing.T) {
	const legs = " CDG LHR 400 420 320 LHR JFK 500 700 777"
	for _, c := range []struct {
		s string
		e api.Errno
	}{
		// No line of words.
		{" ", api.ErrForm}, {"BA  117 2026-01-01/2026-01-01/4" + legs, api.ErrForm}, {" BA 117 2026-01-01/2026-01-01/4" + legs, api.ErrForm}, {"BA 117 2026-01-01/2026-01-01/4" + legs + " ", api.ErrForm},
		{"BA 117 2026-01-01/2026-01-01/4" + legs + "\n", api.ErrForm}, {"BA\t117 2026-01-01/2026-01-01/4" + legs, api.ErrForm}, {`"BA" 117 2026-01-01/2026-01-01/4` + legs, api.ErrForm},
		{`BA 117 2026-01-01/2026-01-01/4 "CDG" LHR 400 420 320`, api.ErrForm}, {`BA "117 2026-01-01/2026-01-01/4` + legs, api.ErrForm}, {"BA 117 2026-01-01/2026-01-01/4" + legs + "\x00", api.ErrForm},
		// Not 3 + 5 n words.
		{"", api.ErrForm}, {"BA", api.ErrForm}, {"BA 117", api.ErrForm}, {"BA 117 2026-01-01/2026-01-01/4", api.ErrForm}, {"BA 117 2026-01-01/2026-01-01/4 CDG", api.ErrForm},
		{"BA 117 2026-01-01/2026-01-01/4 CDG LHR 400 420", api.ErrForm}, {"BA 117 2026-01-01/2026-01-01/4" + legs + " X", api.ErrForm}, {"BA 117 2026-01-01/2026-01-01/4" + legs + " CDG LHR 1 2", api.ErrForm},
		{"X X X X X X X", api.ErrForm}, {"BA 117 CDG LHR 400 420 320", api.ErrForm}, {"117 2026-01-01/2026-01-01/4 CDG LHR 400 420 320", api.ErrForm},
		// The number of the flight.
		{"BA 0117 2026-01-01/2026-01-01/4" + legs, api.ErrForm}, {"BA +117 2026-01-01/2026-01-01/4" + legs, api.ErrForm}, {"BA 11x 2026-01-01/2026-01-01/4" + legs, api.ErrForm}, {"BA -0 2026-01-01/2026-01-01/4" + legs, api.ErrForm},
		{`BA "" 2026-01-01/2026-01-01/4` + legs, api.ErrForm}, {"BA 9223372036854775808 2026-01-01/2026-01-01/4" + legs, api.ErrSize}, {"BA -9223372036854775809 2026-01-01/2026-01-01/4" + legs, api.ErrSize},
		{"BA 9223372036854775807 2026-01-01/2026-01-01/4" + legs, api.ErrArg}, {"BA -9223372036854775808 2026-01-01/2026-01-01/4" + legs, api.ErrArg},
		{"BA 0 2026-01-01/2026-01-01/4" + legs, api.ErrArg}, {"BA -1 2026-01-01/2026-01-01/4" + legs, api.ErrArg}, {"BA 10000 2026-01-01/2026-01-01/4" + legs, api.ErrArg}, {"BA 4294967413 2026-01-01/2026-01-01/4" + legs, api.ErrArg},
		// The period.
		{"BA 117 2026-01-01/2026-01-01" + legs, api.ErrForm}, {"BA 117 2026-01-01/2026-01-01/4/" + legs, api.ErrForm}, {"BA 117 2026-1-1/2026-01-01/4" + legs, api.ErrForm}, {"BA 117 2026-01-01/2026-01-01/" + legs, api.ErrForm},
		{"BA 117 2026-01-01/2026-01-01/54" + legs, api.ErrForm}, {"BA 117 2026-01-01/2026-01-01/8" + legs, api.ErrForm}, {"BA 117 2026-02-29/2026-03-01/4" + legs, api.ErrDay}, {"BA 117 2026-01-01/2026-13-01/4" + legs, api.ErrDay},
		{"BA 117 2026-01-02/2026-01-01/4" + legs, api.ErrDay}, {"BA 117 2026-01-01/2028-03-11/4" + legs, api.ErrSize}, {`BA 117 ""` + legs, api.ErrForm},
		// The carrier.
		{"99 117 2026-01-01/2026-01-01/4" + legs, api.ErrName}, {"ba 117 2026-01-01/2026-01-01/4" + legs, api.ErrName}, {`"" 117 2026-01-01/2026-01-01/4` + legs, api.ErrName}, {`"B " 117 2026-01-01/2026-01-01/4` + legs, api.ErrName}, {"BAW 117 2026-01-01/2026-01-01/4" + legs, api.ErrName},
		// The legs.
		{"BA 117 2026-01-01/2026-01-01/4 CDG LHR 0400 420 320", api.ErrForm}, {"BA 117 2026-01-01/2026-01-01/4 CDG LHR 400 -0 320", api.ErrForm}, {"BA 117 2026-01-01/2026-01-01/4 CDG LHR x 420 320", api.ErrForm},
		{"BA 117 2026-01-01/2026-01-01/4 CDG LHR 9223372036854775808 420 320", api.ErrSize}, {"BA 117 2026-01-01/2026-01-01/4 CDG LHR 400 -9223372036854775809 320", api.ErrSize},
		{"BA 117 2026-01-01/2026-01-01/4 CDG LHR 5760 420 320", api.ErrArg}, {"BA 117 2026-01-01/2026-01-01/4 CDG LHR -1441 420 320", api.ErrArg}, {"BA 117 2026-01-01/2026-01-01/4 CDG LHR 400 5760 320", api.ErrArg}, {"BA 117 2026-01-01/2026-01-01/4 CDG LHR 400 -1441 320", api.ErrArg},
		{"BA 117 2026-01-01/2026-01-01/4 CDG LHR 4294967696 420 320", api.ErrArg},
		{"BA 117 2026-01-01/2026-01-01/4 CD LHR 400 420 320", api.ErrName}, {"BA 117 2026-01-01/2026-01-01/4 CDG lhr 400 420 320", api.ErrName}, {"BA 117 2026-01-01/2026-01-01/4 CDG LHR 400 420 32", api.ErrName}, {"BA 117 2026-01-01/2026-01-01/4 CDG LHR 400 420 32x", api.ErrName},
		{`BA 117 2026-01-01/2026-01-01/4 "" LHR 400 420 320`, api.ErrName}, {`BA 117 2026-01-01/2026-01-01/4 CDG "L R" 400 420 320`, api.ErrName}, {`BA 117 2026-01-01/2026-01-01/4 CDG LHR 400 420 ""`, api.ErrName},
		{"BA 117 2026-01-01/2026-01-01/4" + strings.Repeat(" CDG LHR 400 420 320", 7), api.ErrSize}, {"BA 117 2026-01-01/2026-01-01/4" + strings.Repeat(" CDG LHR 400 420 320", 10000), api.ErrSize},
		{"BA 117 2026-01-01/2026-01-01/4" + strings.Repeat(" CDG LHR 400 420 320", 7) + " CDG LHR 400 x 320", api.ErrForm},
	} {
		if f, e := Parse(c.s); e != c.e || !reflect.DeepEqual(f, api.Flight{}) {
			t.Errorf("Parse(%.200q) = %s, %d, not %d", c.s, brief(f), e, c.e)
		}
	}
	// Six legs are accepted, though Parse does not know whether they follow each other.
	if f, e := Parse("BA 117 2026-01-01/2026-01-01/4" + strings.Repeat(" CDG LHR 400 420 320", 6)); e != api.OK || len(f.Legs) != 6 {
		t.Error(f, e)
	}
}

// word is a word of a line, with the error of reading it, and that of Print for what was read.
type word struct {
	s           string
	read, print api.Errno
}

// legChoices returns the words that the lines of TestOrderOfErrorsOfParse have for a leg.
func legChoices(firstCodes ...word) [][]word {
	minutes := []word{{"400", 0, 0}, {"0400", api.ErrForm, 0}, {"99999999999999999999", api.ErrSize, 0}, {"5760", 0, api.ErrArg}}
	return [][]word{firstCodes, {{"LHR", 0, 0}}, minutes, minutes, {{"320", 0, 0}, {"32", 0, api.ErrName}}}
}

// lines calls f with each line that has one of the choices for each of its words.
func lines(choices [][]word, f func(line []word)) {
	var grow func(l []word)
	grow = func(l []word) {
		if len(l) == len(choices) {
			f(l)
			return
		}
		for _, w := range choices[len(l)] {
			grow(append(slices.Clip(l), w))
		}
	}
	grow(nil)
}

// firstError returns the first of errors that is not OK.
func firstError(l []api.Errno) api.Errno {
	for _, e := range l {
		if e != api.OK {
			return e
		}
	}
	return api.OK
}

func TestOrderOfErrorsOfParse(t *testing.T) {
	choices := [][]word{
		{{"BA", 0, 0}, {"99", 0, api.ErrName}}, {{"117", 0, 0}, {"0117", api.ErrForm, 0}, {"99999999999999999999", api.ErrSize, 0}, {"0", 0, api.ErrArg}},
		{{"2026-01-01/2026-01-01/4", 0, 0}, {"2026-01-01/2026-01-01/0", api.ErrForm, 0}, {"2026-01-02/2026-01-01/4", api.ErrDay, 0}, {"2026-01-01/2029-01-01/4", api.ErrSize, 0}},
	}
	choices = append(choices, legChoices(word{"CDG", 0, 0}, word{"CD", 0, api.ErrName})...)
	choices = append(choices, legChoices(word{"CDG", 0, 0})...)
	count := 0
	lines(choices, func(line []word) {
		var words []string
		var read, print []api.Errno
		for _, w := range line {
			words = append(words, w.s)
			read = append(read, w.read)
			print = append(print, w.print)
		}
		// A name of a leg comes before its minutes for Print, wherever it is in the line.
		for i := 3; i < len(print); i += 5 {
			print[i+2], print[i+4] = print[i+4], print[i+2]
		}
		want := firstError(append(read, print...))
		s := strings.Join(words, " ")
		f, e := Parse(s)
		if e != want {
			t.Fatalf("Parse(%q) = %v, %d, not %d", s, f, e, want)
		}
		if again, _ := Print(f); e == api.OK && again != s || e != api.OK && !reflect.DeepEqual(f, api.Flight{}) {
			t.Fatalf("Parse(%q) = %v, which is written as %q", s, f, again)
		}
		count++
	})
	if count != 2*4*4*64*32 {
		t.Errorf("%d lines", count)
	}
}

func TestTextsThatPrintDoesNotWrite(t *testing.T) {
	line, _ := Print(two())
	accepted := 0
	try := func(s string) {
		f, e := Parse(s)
		if e != api.OK {
			if !reflect.DeepEqual(f, api.Flight{}) {
				t.Errorf("Parse(%q) = %v, %v", s, f, e)
			}
			return
		}
		accepted++
		if again, e := Print(f); again != s || e != api.OK {
			t.Errorf("Parse(%q) = %v, which is written as %q, %v", s, f, again, e)
		}
	}
	for i := range len(line) + 1 {
		for c := range 256 {
			try(line[:i] + string([]byte{byte(c)}) + line[i:])
			if i < len(line) {
				try(line[:i] + string([]byte{byte(c)}) + line[i+1:])
			}
		}
		try(line[:i])
		try(line[i:])
		for k := i; k <= min(i+25, len(line)); k++ {
			try(line[:i] + line[k:])
		}
	}
	if accepted < 500 {
		t.Errorf("only %d texts were accepted", accepted)
	}
}

func TestParseReadsWhatPrintWrites(t *testing.T) {
	family(func(f api.Flight) {
		s, e := Print(f)
		if e != api.OK {
			return
		}
		if g, e := Parse(s); e != api.OK || !reflect.DeepEqual(f, g) || !Same(f, g) {
			t.Fatalf("Parse(%q) = %v, %v", s, g, e)
		}
	})
	for minute := -1440; minute < 5760; minute++ {
		f := on(days(newYear, newYear), leg("LHR", "LGW", minute, 4319-minute))
		s, e := Print(f)
		if g, e2 := Parse(s); e != api.OK || e2 != api.OK || !reflect.DeepEqual(f, g) {
			t.Fatalf("Parse(%q) = %v, %v", s, g, e2)
		}
	}
	for number := 1; number <= 9999; number++ {
		f := changed(one(), func(f *api.Flight) { f.Number = number })
		s, e := Print(f)
		if g, e2 := Parse(s); e != api.OK || e2 != api.OK || !reflect.DeepEqual(f, g) {
			t.Fatalf("Parse(%q) = %v, %v", s, g, e2)
		}
	}
}

// P7.5

func TestRightFlightsTakeTime(t *testing.T) {
	p := world()
	checked := 0
	check := func(f api.Flight) {
		if len(Check(p, f)) != 0 {
			return
		}
		for _, day := range period.Days(f.Period) {
			legs, e := Legs(p, f, day)
			if e != api.OK || len(legs) != len(f.Legs) {
				t.Fatalf("Legs(%v, %d) = %v, %v", f, day, legs, e)
			}
			for i, x := range legs {
				if x.Arr-x.Dep < 1 || i > 0 && x.Dep < legs[i-1].Arr {
					t.Fatalf("Legs(%v, %d) = %v", f, day, legs)
				}
			}
			checked++
		}
	}
	for _, f := range []api.Flight{one(), two(), six()} {
		check(f)
	}
	family(check)
	if checked < 1000 {
		t.Errorf("only on %d days", checked)
	}
}

func TestEachShiftOfTimes(t *testing.T) {
	// All times around a shift: on every day the leg is right exactly if it takes time.
	p := world()
	for dep := 60; dep <= 240; dep += 3 {
		for arr := 60; arr <= 240; arr += 5 {
			for _, day := range []int{springEU - 1, springEU, springEU + 1, autumnEU - 1, autumnEU, autumnEU + 1} {
				f := on(days(day, day), leg("CDG", "NCE", dep, arr))
				takes := minuteUTC(p.Airports[2].Zone, day*1440+arr) - minuteUTC(p.Airports[3].Zone, day*1440+dep)
				if right := len(Check(p, f)) == 0; right != (takes >= 1) {
					t.Errorf("on %d from %d to %d it takes %d minutes", day, dep, arr, takes)
				}
			}
		}
	}
}

// P7.6

// fieldChanges are changes of a single field of a flight with two legs, or of the number or the order of its legs.
func fieldChanges() []func(f *api.Flight) {
	l := []func(f *api.Flight){
		func(f *api.Flight) { f.Carrier = "BB" }, func(f *api.Flight) { f.Carrier = "" }, func(f *api.Flight) { f.Carrier = "ba" }, func(f *api.Flight) { f.Number++ }, func(f *api.Flight) { f.Number = -f.Number }, func(f *api.Flight) { f.Number += 1 << 32 },
		func(f *api.Flight) { f.Period.From-- }, func(f *api.Flight) { f.Period.To++ }, func(f *api.Flight) { f.Period.Days ^= 1 }, func(f *api.Flight) { f.Period.Days += 128 },
		func(f *api.Flight) { f.Legs = nil }, func(f *api.Flight) { f.Legs = f.Legs[:1] }, func(f *api.Flight) { f.Legs = f.Legs[1:] }, func(f *api.Flight) { f.Legs = append(f.Legs, api.Leg{}) },
		func(f *api.Flight) { f.Legs[0], f.Legs[1] = f.Legs[1], f.Legs[0] }, func(f *api.Flight) { f.Legs = append(f.Legs, f.Legs[1]) },
	}
	for i := range 2 {
		l = append(l, func(f *api.Flight) { f.Legs[i].From = "LGW" }, func(f *api.Flight) { f.Legs[i].To = "LGW" }, func(f *api.Flight) { f.Legs[i].Dep++ }, func(f *api.Flight) { f.Legs[i].Arr-- }, func(f *api.Flight) { f.Legs[i].Equip = "787" },
			func(f *api.Flight) { f.Legs[i].Dep += 1 << 32 }, func(f *api.Flight) { f.Legs[i].Arr += 1 << 32 })
	}
	return l
}

func TestSame(t *testing.T) {
	all := []api.Flight{two()}
	for _, change := range fieldChanges() {
		all = append(all, changed(two(), change))
	}
	all = append(all, one(), six(), api.Flight{}, api.Flight{Legs: make([]api.Leg, 1)})
	for i, a := range all {
		for k, b := range all {
			if Same(a, b) != (i == k) {
				t.Errorf("Same(%v, %v) = %v", a, b, i != k)
			}
		}
		if !Same(a, changed(a, func(*api.Flight) {})) {
			t.Errorf("%v is not the same as its copy", a)
		}
	}
	// Lists without legs are equal; the same set of days is not enough.
	if !Same(api.Flight{}, api.Flight{Legs: []api.Leg{}}) || !Same(api.Flight{Legs: []api.Leg{}}, api.Flight{}) {
		t.Error("nil and empty legs are not the same")
	}
	if Same(on(days(newYear, newYear)), on(api.Period{From: newYear, To: newYear, Days: 8})) {
		t.Error("periods with the same set are the same")
	}
	// Memory behind the end of the legs does not belong to them.
	if a, b := six(), six(); !Same(changed(a, func(f *api.Flight) { f.Legs = f.Legs[:2] }), func() api.Flight { b.Legs = b.Legs[:2:2]; return b }()) {
		t.Error("the capacity matters")
	}
}

// All calls

// oddPlaces returns places that are not valid, besides valid ones.
func oddPlaces() []api.Places {
	odd := []api.Zone{
		{Offset: math.MaxInt}, {Offset: math.MinInt}, {Shifts: []api.Shift{{At: math.MaxInt, Offset: math.MaxInt}, {At: math.MinInt, Offset: math.MinInt}, {At: 13676180, Offset: 841}}},
		{Shifts: slices.Repeat([]api.Shift{{At: 13676180, Offset: -math.MaxInt}}, 300)},
	}
	l := []api.Places{{}, world(), {Airports: make([]api.Airport, 3), Distances: make([]api.Distance, 3)}, {Airports: []api.Airport{}}}
	for i, z := range odd {
		other := odd[(i+1)%len(odd)]
		l = append(l, api.Places{Airports: []api.Airport{{Code: "LHR", City: "LON", Country: "GB", Zone: z}, {Code: "CDG", Zone: other}, {Code: "JFK", Zone: z}, {Code: "JFK", Zone: other}, {Zone: other}}})
	}
	return l
}

// oddFlights returns flights that are not valid, besides valid ones.
func oddFlights() []api.Flight {
	l := []api.Flight{one(), two(), six(), {}, on(days(newYear, newYear)), on(days(newYear, newYear), make([]api.Leg, 20)...), on(days(0, math.MaxInt), leg("", "", math.MinInt, math.MaxInt))}
	for _, c := range badFlights() {
		if len(c.f.Legs) < 100 {
			l = append(l, c.f)
		}
	}
	for _, minute := range badMinutes() {
		l = append(l, on(days(newYear, newYear), leg("LHR", "LHR", minute, -minute), leg("LHR", "XXX", minute, minute), leg("", "LHR", -minute, 1-minute)))
	}
	return l
}

// results calls all functions, twice, fails if a result differs, and returns nothing that matters but that all of them ended.
func results(t *testing.T, p api.Places, f api.Flight, day int, s api.Seg) {
	t.Helper()
	var all [2][]any
	for i := range all {
		faults := Check(p, f)
		legs, e1 := Legs(p, f, day)
		segs, e2 := Segs(p, f, day)
		path, e3 := Path(p, f, s)
		line, e4 := Print(f)
		read, e5 := Parse(line)
		if e1 != api.OK && len(legs) > 0 || e2 != api.OK && len(segs) > 0 || e3 != api.OK && len(path) > 0 || e4 != api.OK && line != "" || e5 != api.OK && !reflect.DeepEqual(read, api.Flight{}) {
			t.Errorf("%v on %d, %v: a result and an error", f, day, s)
		}
		all[i] = []any{faults, legs, e1, segs, e2, path, e3, line, e4, read, e5, Same(f, read), Same(read, f)}
	}
	if !reflect.DeepEqual(all[0], all[1]) {
		t.Errorf("%v on %d, %v: %v", f, day, s, all)
	}
}

func TestNothingPanicsAndResultsAreTheSameAgain(t *testing.T) {
	segs := []api.Seg{{}, {Carrier: "BA", Number: 117, Day: newYear}, {Carrier: "BA", Number: 117, Day: newYear, From: "LHR", To: "JFK", Dep: 13676180, Arr: 13676680}, {Carrier: "BA", Number: 117, Day: math.MinInt, Dep: math.MaxInt}, {Carrier: "BA", Number: 117, Day: newYear, From: "LHR", To: "LHR", Dep: math.MinInt, Arr: math.MaxInt}}
	for _, p := range oddPlaces() {
		for _, f := range oddFlights() {
			for _, day := range []int{newYear, 0, -1, math.MinInt, math.MaxInt} {
				for _, s := range segs {
					results(t, p, f, day, s)
				}
			}
		}
	}
}

func TestTextsOfAnyBytesDoNotPanic(t *testing.T) {
	parts := []string{"", " ", "\"", "\\", "BA", "117", "2026-01-01/2026-01-01/4", " LHR JFK 500 700 777", "\xff", "-", "\n"}
	for _, a := range parts {
		for _, b := range parts {
			for _, c := range parts {
				for _, d := range parts {
					s := a + b + c + d
					f, e := Parse(s)
					if again, _ := Print(f); e == api.OK && again != s || e != api.OK && !reflect.DeepEqual(f, api.Flight{}) {
						t.Errorf("Parse(%q) = %v, %v", s, f, e)
					}
				}
			}
		}
	}
}

// spare returns a copy of a list that has memory behind its end, which is a copy of its elements.
func spare[T any](l []T) []T { return append(slices.Clone(l), l...)[:len(l)] }

// whole returns a list with the memory behind its end.
func whole[T any](l []T) []T { return slices.Clone(l[:cap(l)]) }

func TestArgumentsAreNotModified(t *testing.T) {
	for _, f := range oddFlights() {
		p := world()
		p.Airports, p.Distances, f.Legs = spare(p.Airports), spare(p.Distances), spare(f.Legs)
		for i := range p.Airports {
			p.Airports[i].Zone.Shifts = spare(p.Airports[i].Zone.Shifts)
		}
		airports, distances, legs := whole(p.Airports), whole(p.Distances), whole(f.Legs)
		var shifts [][]api.Shift
		for _, a := range p.Airports {
			shifts = append(shifts, whole(a.Zone.Shifts))
		}
		s := api.Seg{Carrier: f.Carrier, Number: f.Number, Day: newYear, From: "LHR", To: "JFK", Dep: 13676180, Arr: 13676680}
		same := s
		results(t, p, f, newYear, s)
		if s != same || !slices.Equal(legs, whole(f.Legs)) || !reflect.DeepEqual(airports, whole(p.Airports)) || !slices.Equal(distances, whole(p.Distances)) {
			t.Errorf("an argument was modified: %v", f)
		}
		for i, a := range p.Airports {
			if !slices.Equal(shifts[i], whole(a.Zone.Shifts)) {
				t.Errorf("the shifts of %v were modified", a)
			}
		}
	}
}

func TestResultsAreNewMemory(t *testing.T) {
	p := world()
	f := six()
	line, _ := Print(f)
	read, _ := Parse(line)
	legs, _ := Legs(p, f, newYear)
	segs, _ := Segs(p, f, newYear)
	path, _ := Path(p, f, segs[5])
	clear(read.Legs)
	clear(legs)
	clear(segs)
	clear(path)
	if len(path) != 6 || !Same(f, six()) || !reflect.DeepEqual(p, world()) || len(Check(p, f)) != 0 {
		t.Error("changing a result changed an argument")
	}
	if again, e := Parse(line); e != api.OK || !Same(again, f) {
		t.Error("changing a result changed a later one")
	}
	if l := places.Check(p); len(l) != 0 {
		t.Errorf("the places of the tests are not valid: %v", l)
	}
}
