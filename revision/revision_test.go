package revision

import (
	"math"
	"reflect"
	"slices"
	"strconv"
	"strings"
	"testing"

	"airline/api"
	"airline/flight"
	"airline/period"
	"airline/places"
	"airline/schedule"
	"airline/text"
)

const (
	// newYear is 2026-01-01, a Thursday. The Sundays after it are newYear+3 and newYear+10.
	newYear = 9497
	// springEU is 2026-03-29, the Sunday on which London skips the local minutes from 60 to 119.
	springEU = 9584
	lastDay  = api.MaxDay - 1
	everyDay = 127
)

// world returns airports in zones with and without summer time.
func world() api.Places {
	summer := func(offset int) api.Zone {
		return api.Zone{Offset: offset, Shifts: []api.Shift{{At: springEU*1440 + 60, Offset: offset + 60}, {At: 9794*1440 + 60, Offset: offset}}}
	}
	return api.Places{
		Airports: []api.Airport{
			{Code: "LHR", City: "LON", Country: "GB", Zone: summer(0)}, {Code: "LGW", City: "LON", Country: "GB", Zone: summer(0)},
			{Code: "CDG", City: "PAR", Country: "FR", Zone: summer(60)}, {Code: "JFK", City: "NYC", Country: "US", Zone: api.Zone{Offset: -300}},
			{Code: "SFO", City: "SFO", Country: "US", Zone: api.Zone{Offset: -480}},
		},
		Distances: []api.Distance{{From: "LON", To: "PAR", Miles: 214}},
	}
}

// leg returns a leg, to write it shortly.
func leg(from, to string, dep, arr int) api.Leg {
	return api.Leg{From: from, To: to, Dep: dep, Arr: arr, Equip: "777"}
}

// legs returns the legs with which a revision replaces others.
func legs() []api.Leg { return []api.Leg{leg("LGW", "CDG", 600, 730), leg("CDG", "JFK", 800, 1000)} }

// days returns a period with every weekday, some one with given ones, and one a single day.
func days(from, to int) api.Period { return api.Period{From: from, To: to, Days: everyDay} }

func some(from, to, weekdays int) api.Period { return api.Period{From: from, To: to, Days: weekdays} }

func one(day int) api.Period { return days(day, day) }

// canonical returns the canonical period of all days from one to another.
func canonical(from, to int) api.Period { return around(between(from, to)) }

// between returns all days from one to another.
func between(from, to int) []int {
	var l []int
	for day := from; day <= to; day++ {
		l = append(l, day)
	}
	return l
}

// around returns the period from the first of days that ascend to the last one, with the weekdays of all of them. Day 0 is a Saturday.
func around(l []int) api.Period {
	p := api.Period{From: l[0], To: l[len(l)-1]}
	for _, day := range l {
		p.Days |= 1 << ((day + 5) % 7)
	}
	return p
}

// ba returns the flight BA 117 with one leg, and long one with three.
func ba(p api.Period) api.Flight {
	return api.Flight{Carrier: "BA", Number: 117, Period: p, Legs: []api.Leg{leg("LHR", "JFK", 500, 700)}}
}

func long(p api.Period) api.Flight {
	f := ba(p)
	f.Legs = []api.Leg{leg("CDG", "LHR", 400, 420), leg("LHR", "JFK", 500, 700), leg("JFK", "SFO", 800, 1000)}
	f.Legs[0].Equip = "320"
	return f
}

// modified returns a flight with a change, and does not modify the flight itself.
func modified(f api.Flight, change func(f *api.Flight)) api.Flight {
	f.Legs = slices.Clone(f.Legs)
	change(&f)
	return f
}

// called returns a flight under another carrier and number.
func called(carrier string, number int, f api.Flight) api.Flight {
	return modified(f, func(f *api.Flight) { f.Carrier, f.Number = carrier, number })
}

// during returns a flight with another period.
func during(p api.Period, f api.Flight) api.Flight {
	return modified(f, func(f *api.Flight) { f.Period = p })
}

// moved returns a flight with other minutes, flown one with another equipment, and rerouted one with the legs of legs.
func moved(minutes int, f api.Flight) api.Flight {
	return modified(f, func(f *api.Flight) {
		for i := range f.Legs {
			f.Legs[i].Dep += minutes
			f.Legs[i].Arr += minutes
		}
	})
}

func flown(equip string, f api.Flight) api.Flight {
	return modified(f, func(f *api.Flight) {
		for i := range f.Legs {
			f.Legs[i].Equip = equip
		}
	})
}

func rerouted(f api.Flight) api.Flight {
	return modified(f, func(f *api.Flight) { f.Legs = legs() })
}

// timetable returns flights, to write them shortly.
func timetable(l ...api.Flight) []api.Flight { return l }

// change returns a revision of BA 117, with the fields that belong to its kind.
func change(kind int, p api.Period) api.Revision {
	r := api.Revision{Kind: kind, Carrier: "BA", Number: 117, Period: p}
	switch kind {
	case api.VTime:
		r.Minutes = 10
	case api.VEquip:
		r.Equip = "380"
	case api.VNew, api.VReplace:
		r.Legs = legs()
	}
	return r
}

// to returns a revision of another carrier and number.
func to(carrier string, number int, r api.Revision) api.Revision {
	r.Carrier, r.Number = carrier, number
	return r
}

// after returns a flight as a revision of change leaves it.
func after(kind int, f api.Flight) api.Flight {
	switch kind {
	case api.VTime:
		return moved(10, f)
	case api.VEquip:
		return flown("380", f)
	}
	return rerouted(f)
}

// kinds are all kinds but VNew.
func kinds() []int { return []int{api.VCancel, api.VTime, api.VEquip, api.VReplace} }

// oddKinds are no kinds. Some of them are one in 8 or 32 bits.
func oddKinds() []int {
	return []int{0, -1, 6, 7, 1<<8 + 1, 1<<32 + 1, 1<<32 + 5, -1<<32 + 2, math.MaxInt, math.MinInt}
}

// badPeriods are periods that are not valid, though most of them have bounds on both sides of newYear.
func badPeriods() []api.Period {
	return []api.Period{
		{}, days(-1, newYear), days(newYear+1, newYear-1), days(newYear, api.MaxDay), days(math.MinInt, math.MaxInt), days(newYear-400, newYear+400),
		some(newYear-9, newYear+9, 0), some(newYear-9, newYear+9, 128), some(newYear-9, newYear+9, 255), some(newYear-9, newYear+9, -1), some(newYear, newYear, 1<<32+8),
	}
}

// same compares timetables.
func same(a, b []api.Flight) bool { return slices.EqualFunc(a, b, flight.Same) }

// P10.1

// applyIs fails if Apply does not return these flights, in this order.
func applyIs(t *testing.T, l []api.Flight, r api.Revision, want ...api.Flight) {
	t.Helper()
	if got, e := Apply(world(), l, r); e != api.OK || !same(got, want) {
		t.Errorf("Apply(.., %v, %v) =\n%v, %d, not\n%v", l, r, got, e, want)
	}
}

// applyFails fails if Apply does not return this error.
func applyFails(t *testing.T, l []api.Flight, r api.Revision, want api.Errno) {
	t.Helper()
	if got, e := Apply(world(), l, r); e != want || len(got) > 0 {
		t.Errorf("Apply(.., %v, %v) = %v, %d, not %d", l, r, got, e, want)
	}
}

func TestApplyOfExamples(t *testing.T) {
	l := timetable(ba(days(9497, 9510)))
	applyIs(t, l, api.Revision{Kind: api.VCancel, Carrier: "BA", Number: 117, Period: some(9497, 9510, 64)}, ba(some(9497, 9510, 63)))
	applyIs(t, l, api.Revision{Kind: api.VTime, Carrier: "BA", Number: 117, Period: days(9500, 9503), Minutes: 10}, ba(some(9497, 9499, 56)),
		api.Flight{Carrier: "BA", Number: 117, Period: some(9500, 9503, 71), Legs: []api.Leg{leg("LHR", "JFK", 510, 710)}}, ba(days(9504, 9510)))
}

// part is a period of a flight that replaces one that is touched.
type part struct {
	p       api.Period
	changed bool
}

func TestApplyOfPeriods(t *testing.T) {
	all := days(9497, 9510)
	was := func(from, to, weekdays int) part { return part{some(from, to, weekdays), false} }
	now := func(from, to, weekdays int) part { return part{some(from, to, weekdays), true} }
	for _, c := range []struct {
		f, r api.Period
		want []part
	}{
		// Inside of the flight's period, equal to it, larger, and with the same first or last day.
		{all, days(9500, 9503), []part{was(9497, 9499, 56), now(9500, 9503, 71), was(9504, 9510, 127)}},
		{all, all, []part{now(9497, 9510, 127)}}, {all, days(9490, 9520), []part{now(9497, 9510, 127)}}, {all, days(9111, 9910), []part{now(9497, 9510, 127)}},
		{all, days(9497, 9503), []part{now(9497, 9503, 127), was(9504, 9510, 127)}}, {all, days(9504, 9510), []part{was(9497, 9503, 127), now(9504, 9510, 127)}},
		// It overlaps the start, the end.
		{all, days(9490, 9498), []part{now(9497, 9498, 24), was(9499, 9510, 127)}}, {all, days(9509, 9520), []part{was(9497, 9508, 127), now(9509, 9510, 6)}},
		// The first day, the last one, one between.
		{all, one(9497), []part{now(9497, 9497, 8), was(9498, 9510, 127)}}, {all, one(9510), []part{was(9497, 9509, 127), now(9510, 9510, 4)}}, {all, one(9503), []part{was(9497, 9502, 123), now(9503, 9503, 4), was(9504, 9510, 127)}},
		{all, days(9490, 9497), []part{now(9497, 9497, 8), was(9498, 9510, 127)}}, {all, days(9510, 9520), []part{was(9497, 9509, 127), now(9510, 9510, 4)}},
		// Some weekdays: the changed flight is behind the part of the same days, or ahead of it.
		{all, some(9497, 9510, 64), []part{was(9497, 9510, 63), now(9500, 9507, 64)}}, {all, some(9497, 9510, 8), []part{now(9497, 9504, 8), was(9498, 9510, 119)}}, {all, some(9497, 9510, 4), []part{was(9497, 9509, 123), now(9503, 9510, 4)}},
		{all, some(9499, 9508, 64), []part{was(9497, 9498, 24), was(9499, 9508, 63), now(9500, 9507, 64), was(9509, 9510, 6)}}, {all, some(9499, 9508, 32), []part{was(9497, 9498, 24), now(9499, 9506, 32), was(9500, 9508, 95), was(9509, 9510, 6)}},
		{all, some(9490, 9503, 8), []part{now(9497, 9497, 8), was(9498, 9503, 119), was(9504, 9510, 127)}}, {all, some(9504, 9520, 4), []part{was(9497, 9503, 127), was(9504, 9509, 123), now(9510, 9510, 4)}},
		// The flight has some weekdays: Monday, Wednesday and Friday. Its periods become canonical.
		{some(9497, 9510, 21), days(9501, 9503), []part{was(9498, 9498, 16), now(9501, 9503, 5), was(9505, 9510, 21)}}, {some(9497, 9512, 21), some(9497, 9503, 84), []part{now(9498, 9503, 20), was(9501, 9501, 1), was(9505, 9512, 21)}},
		{some(9497, 9512, 127), some(9498, 9499, 48), []part{was(9497, 9497, 8), now(9498, 9499, 48), was(9500, 9512, 127)}}, {some(9496, 9504, 64), days(9490, 9520), []part{now(9500, 9500, 64)}}, {some(9496, 9504, 64), one(9500), []part{now(9500, 9500, 64)}},
		// The first and the last day of all, and as many days as a period has.
		{days(0, 799), one(0), []part{now(0, 0, 32), was(1, 799, 127)}}, {days(lastDay-799, lastDay), one(lastDay), []part{was(lastDay-799, lastDay-1, 127), now(lastDay, lastDay, canonical(lastDay, lastDay).Days)}},
		{days(0, 799), days(0, 799), []part{now(0, 799, 127)}}, {days(0, 799), days(799, 1598), []part{was(0, 798, 127), now(799, 799, canonical(799, 799).Days)}},
	} {
		for _, f := range timetable(ba(c.f), long(c.f)) {
			for _, kind := range kinds() {
				var want []api.Flight
				for _, x := range c.want {
					switch {
					case !x.changed:
						want = append(want, during(x.p, f))
					case kind != api.VCancel:
						want = append(want, after(kind, during(x.p, f)))
					}
				}
				applyIs(t, timetable(f), change(kind, c.r), want...)
			}
			applyFails(t, timetable(f), change(api.VNew, c.r), api.ErrTwice)
		}
	}
}

func TestApplyOfOtherDays(t *testing.T) {
	for _, c := range []struct{ f, r api.Period }{
		// Before and after the flight's days, at once and later.
		{days(9497, 9510), days(9490, 9496)}, {days(9497, 9510), days(9511, 9520)}, {days(9497, 9510), one(9496)}, {days(9497, 9510), one(9511)}, {days(9497, 9510), days(0, 799)}, {days(9497, 9510), days(lastDay-799, lastDay)},
		// The same bounds, but other weekdays; a weekday of both, but not on their common days.
		{some(9497, 9510, 63), some(9497, 9510, 64)}, {some(9497, 9510, 42), some(9497, 9510, 85)}, {some(9497, 9503, 3), some(9503, 9510, 3)}, {some(9497, 9504, 8), some(9498, 9503, 8)}, {some(9497, 9504, 8), days(9498, 9503)}, {some(9498, 9510, 1), days(9502, 9507)},
		// Bounds that are not among the days.
		{some(9497, 9510, 1), days(9509, 9520)}, {some(9497, 9510, 1), days(9490, 9500)}, {days(9497, 9503), some(9503, 9510, 8)},
		// Periods without days.
		{days(9497, 9510), some(9497, 9497, 119)}, {some(9497, 9499, 1), days(9490, 9510)}, {some(9497, 9497, 119), some(9497, 9497, 119)},
	} {
		for _, kind := range kinds() {
			applyFails(t, timetable(ba(c.f)), change(kind, c.r), api.ErrNone)
		}
		// The period of a new flight is not made canonical.
		applyIs(t, timetable(ba(c.f)), change(api.VNew, c.r), ba(c.f), rerouted(ba(c.r)))
	}
}

func TestApplyOfFlightsInTheirPlaces(t *testing.T) {
	early, late, far := days(newYear, newYear+4), days(newYear+5, newYear+9), days(newYear+20, newYear+29)
	l := timetable(called("AF", 117, ba(early)), ba(late), called("BA", 118, long(late)), long(early), ba(far), called("BA", 11, ba(late)))
	applyIs(t, l, change(api.VCancel, days(newYear, newYear+9)), l[0], l[2], l[4], l[5])
	applyIs(t, l, change(api.VTime, days(newYear, newYear+9)), l[0], moved(10, ba(canonical(newYear+5, newYear+9))), l[2], moved(10, long(canonical(newYear, newYear+4))), l[4], l[5])
	// Both are split, at their places, each in ascending order.
	applyIs(t, l, change(api.VEquip, days(newYear+3, newYear+6)), l[0],
		flown("380", ba(canonical(newYear+5, newYear+6))), ba(canonical(newYear+7, newYear+9)), l[2],
		long(canonical(newYear, newYear+2)), flown("380", long(canonical(newYear+3, newYear+4))), l[4], l[5])
	applyIs(t, l, change(api.VReplace, one(newYear+5)), l[0], rerouted(ba(canonical(newYear+5, newYear+5))), ba(canonical(newYear+6, newYear+9)), l[2], l[3], l[4], l[5])
	applyIs(t, l, change(api.VReplace, days(newYear+9, newYear+20)), l[0], ba(canonical(newYear+5, newYear+8)), rerouted(ba(canonical(newYear+9, newYear+9))), l[2], l[3],
		rerouted(ba(canonical(newYear+20, newYear+20))), ba(canonical(newYear+21, newYear+29)), l[5])
	// Of other names.
	applyIs(t, l, to("AF", 117, change(api.VCancel, one(newYear+4))), called("AF", 117, ba(canonical(newYear, newYear+3))), l[1], l[2], l[3], l[4], l[5])
	applyIs(t, l, to("BA", 11, change(api.VCancel, days(newYear, newYear+9))), l[:5]...)
	applyIs(t, l, to("BA", 118, change(api.VTime, one(newYear+5))), l[0], l[1], moved(10, called("BA", 118, long(canonical(newYear+5, newYear+5)))), called("BA", 118, long(canonical(newYear+6, newYear+9))), l[3], l[4], l[5])
	for _, r := range []api.Revision{
		to("AF", 118, change(api.VCancel, early)), to("BB", 117, change(api.VCancel, early)), to("", 117, change(api.VCancel, early)), to("ba", 117, change(api.VCancel, early)), to("BA1", 17, change(api.VCancel, early)), to("BA", 1<<32+117, change(api.VCancel, early)),
		to("AF", 117, change(api.VEquip, late)), to("BA", 118, change(api.VReplace, early)), change(api.VTime, days(newYear+10, newYear+19)),
	} {
		applyFails(t, l, r, api.ErrNone)
	}
	// A flight that is not touched keeps a period that is not canonical, and one without days.
	odd := timetable(ba(some(newYear, newYear+20, 64)), ba(days(newYear+1, newYear+1)), ba(some(newYear+2, newYear+2, 1)))
	applyIs(t, odd, change(api.VCancel, one(newYear+1)), odd[0], odd[2])
}

func TestApplyOfKinds(t *testing.T) {
	week := canonical(newYear, newYear+6)
	l := timetable(long(week))
	for _, minutes := range []int{0, 1, -1, 60, -1440, 1440, 4000, -1840, 4759} {
		r := change(api.VTime, week)
		r.Minutes = minutes
		applyIs(t, l, r, modified(long(week), func(f *api.Flight) {
			for i, minute := range []int{400, 500, 800} {
				f.Legs[i].Dep = minute + minutes
			}
			for i, minute := range []int{420, 700, 1000} {
				f.Legs[i].Arr = minute + minutes
			}
		}))
	}
	r := change(api.VEquip, week)
	r.Equip = "A1B"
	applyIs(t, l, r, modified(long(week), func(f *api.Flight) { f.Legs[0].Equip, f.Legs[1].Equip, f.Legs[2].Equip = "A1B", "A1B", "A1B" }))
	r = change(api.VReplace, week)
	for _, legs := range [][]api.Leg{{leg("SFO", "JFK", 0, 400)}, long(week).Legs, long(week).Legs[1:], ba(week).Legs} {
		r.Legs = legs
		applyIs(t, l, r, modified(long(week), func(f *api.Flight) { f.Legs = legs }))
	}
	// Fields that do not belong to the kind are not used.
	for _, kind := range append(kinds(), api.VNew) {
		r := api.Revision{Kind: kind, Carrier: "BA", Number: 117, Period: week, Minutes: 10, Equip: "380", Legs: legs()}
		switch kind {
		case api.VCancel:
			applyIs(t, l, r)
		case api.VNew:
			applyIs(t, nil, r, rerouted(ba(week)))
		default:
			applyIs(t, l, r, after(kind, long(week)))
		}
	}
}

func TestApplyOfNew(t *testing.T) {
	first, last := days(newYear, newYear+4), days(newYear+10, newYear+14)
	l := timetable(ba(last), called("AF", 117, long(first)), long(first))
	for _, p := range []api.Period{days(newYear-4, newYear-1), days(newYear+5, newYear+9), one(newYear + 7), days(newYear+15, newYear+19), some(newYear, newYear+1, 6), days(lastDay-799, lastDay), days(0, 799)} {
		applyIs(t, l, change(api.VNew, p), l[0], l[1], l[2], rerouted(ba(p)))
	}
	for _, p := range []api.Period{one(newYear), one(newYear + 2), one(newYear + 4), one(newYear + 10), one(newYear + 14), days(newYear+4, newYear+9), days(newYear+5, newYear+10), days(newYear-9, newYear), days(newYear+14, newYear+19), days(newYear, newYear+14), first, last} {
		applyFails(t, l, change(api.VNew, p), api.ErrTwice)
		// Another number is free on these days.
		applyIs(t, l, to("BA", 116, change(api.VNew, p)), l[0], l[1], l[2], called("BA", 116, rerouted(ba(p))))
		applyIs(t, l, to("A1", 117, change(api.VNew, p)), l[0], l[1], l[2], called("A1", 117, rerouted(ba(p))))
	}
	applyFails(t, l, to("AF", 117, change(api.VNew, first)), api.ErrTwice)
	applyIs(t, l, to("AF", 117, change(api.VNew, last)), l[0], l[1], l[2], called("AF", 117, rerouted(ba(last))))
	applyIs(t, nil, change(api.VNew, first), rerouted(ba(first)))
	applyIs(t, timetable(), to("9W", 9999, change(api.VNew, one(lastDay))), called("9W", 9999, rerouted(ba(one(lastDay)))))
}

func TestApplyOfNoFlights(t *testing.T) {
	for _, kind := range kinds() {
		applyFails(t, nil, change(kind, days(newYear, newYear+6)), api.ErrNone)
		applyFails(t, timetable(), change(kind, one(0)), api.ErrNone)
	}
}

func TestErrorsOfApply(t *testing.T) {
	week := days(newYear, newYear+6)
	l := timetable(ba(week))
	for _, kind := range oddKinds() {
		for _, p := range append(badPeriods(), week, one(newYear+7)) {
			applyFails(t, l, change(kind, p), api.ErrKind)
			applyFails(t, nil, to("", 0, change(kind, p)), api.ErrKind)
		}
	}
	// The error of the period is ahead of those of flights, be they touched or not.
	for _, p := range badPeriods() {
		e := period.Check(p)
		for _, kind := range append(kinds(), api.VNew) {
			applyFails(t, l, change(kind, p), e)
			applyFails(t, nil, change(kind, p), e)
			applyFails(t, l, to("", -1, api.Revision{Kind: kind, Period: p, Minutes: math.MinInt, Equip: "x"}), e)
		}
	}
	// ErrTwice and ErrNone are ahead of the violations of the changed flight.
	applyFails(t, l, api.Revision{Kind: api.VNew, Carrier: "BA", Number: 117, Period: week}, api.ErrTwice)
	applyFails(t, l, api.Revision{Kind: api.VReplace, Carrier: "BA", Number: 117, Period: one(newYear + 7)}, api.ErrNone)
	applyFails(t, l, api.Revision{Kind: api.VEquip, Carrier: "BA", Number: 118, Period: week, Equip: "x"}, api.ErrNone)
	applyFails(t, l, api.Revision{Kind: api.VTime, Carrier: "", Number: 0, Period: week, Minutes: 9999}, api.ErrNone)
	applyFails(t, l, api.Revision{Kind: api.VCancel, Carrier: "BA", Number: 0, Period: week}, api.ErrNone)
}

func TestApplyOfChangedFlightsThatAreNotValid(t *testing.T) {
	week := days(newYear, newYear+6)
	l := timetable(long(week))
	with := func(kind int, set func(r *api.Revision)) api.Revision {
		r := change(kind, one(newYear+3))
		set(&r)
		return r
	}
	minutes := func(n int) func(r *api.Revision) { return func(r *api.Revision) { r.Minutes = n } }
	equip := func(s string) func(r *api.Revision) { return func(r *api.Revision) { r.Equip = s } }
	route := func(l ...api.Leg) func(r *api.Revision) { return func(r *api.Revision) { r.Legs = l } }
	for _, c := range []struct {
		r    api.Revision
		want api.Errno
	}{
		// The first minute that is not allowed, and the greatest and the smallest numbers.
		{with(api.VTime, minutes(-1841)), api.ErrArg}, {with(api.VTime, minutes(4760)), api.ErrArg}, {with(api.VTime, minutes(math.MaxInt)), api.ErrArg}, {with(api.VTime, minutes(math.MinInt)), api.ErrArg}, {with(api.VTime, minutes(1<<32)), api.ErrArg},
		{with(api.VEquip, equip("")), api.ErrName}, {with(api.VEquip, equip("38")), api.ErrName}, {with(api.VEquip, equip("3800")), api.ErrName}, {with(api.VEquip, equip("38a")), api.ErrName},
		{with(api.VReplace, route()), api.ErrSize}, {with(api.VReplace, route(slices.Repeat(legs(), 4)...)), api.ErrSize}, {with(api.VReplace, route(leg("LHR", "XXX", 0, 1))), api.ErrPlace}, {with(api.VReplace, route(leg("LHR", "LHR", 0, 1))), api.ErrLeg},
		{with(api.VReplace, route(leg("LHR", "LGW", 0, 0))), api.ErrTime}, {with(api.VReplace, route(leg("LHR", "LGW", 0, 5760))), api.ErrArg}, {with(api.VReplace, route(leg("LHR", "LGW", 0, 9), leg("LGW", "CDG", 8, 100))), api.ErrTime},
		// The first violation of several: of one leg, of two legs.
		{with(api.VReplace, route(api.Leg{From: "XXX", To: "XXX", Dep: 9999})), api.ErrName}, {with(api.VReplace, route(leg("XXX", "XXX", 9999, 0))), api.ErrPlace}, {with(api.VReplace, route(leg("LHR", "LHR", 9999, 0))), api.ErrLeg},
		{with(api.VReplace, route(leg("LHR", "CDG", 0, 5760), leg("XXX", "YYY", 0, 0))), api.ErrArg}, {with(api.VReplace, route(leg("LHR", "CDG", 500, 0), leg("CDG", "YYY", 0, 0))), api.ErrPlace},
	} {
		applyFails(t, l, c.r, c.want)
		if c.r.Kind == api.VReplace {
			added := to("BA", 118, c.r)
			added.Kind = api.VNew
			applyFails(t, l, added, c.want)
			// Carrier and number of a new flight are checked ahead of its legs.
			applyFails(t, l, to("", 118, added), api.ErrName)
			applyFails(t, l, to("BA", 0, added), api.ErrArg)
			applyFails(t, l, to("99", 10000, added), api.ErrName)
		}
	}
	for _, number := range []int{0, -1, 10000, 1<<32 + 1, math.MaxInt, math.MinInt} {
		applyFails(t, l, to("BA", number, change(api.VNew, week)), api.ErrArg)
	}
	for _, carrier := range []string{"", "B", "BAA", "99", "ba", "B "} {
		applyFails(t, l, to(carrier, 117, change(api.VNew, week)), api.ErrName)
	}
}

func TestApplyOfTimesAroundAShift(t *testing.T) {
	// From LHR at 0:00 to LGW at 0:30: 70 minutes later, London skips both times on one Sunday.
	f := api.Flight{Carrier: "BA", Number: 1, Period: days(springEU-7, springEU+7), Legs: []api.Leg{leg("LHR", "LGW", 0, 30)}}
	for _, c := range []struct {
		p       api.Period
		minutes int
		want    api.Errno
	}{
		{days(springEU-7, springEU-1), 70, api.OK}, {days(springEU+1, springEU+7), 70, api.OK}, {days(springEU-7, springEU), 70, api.ErrTime}, {one(springEU), 70, api.ErrTime}, {some(springEU-7, springEU+7, 64), 70, api.ErrTime}, {some(springEU-7, springEU+7, 63), 70, api.OK},
		{one(springEU), 60, api.ErrTime}, {one(springEU), 59, api.OK}, {one(springEU), 90, api.ErrTime}, {one(springEU), 91, api.OK}, {one(springEU), 30, api.OK}, {one(springEU), 89, api.ErrTime},
	} {
		r := api.Revision{Kind: api.VTime, Carrier: "BA", Number: 1, Period: c.p, Minutes: c.minutes}
		if c.want != api.OK {
			applyFails(t, timetable(f), r, c.want)
		} else if got, e := Apply(world(), timetable(f), r); e != api.OK || len(schedule.Check(world(), got)) > 0 {
			t.Errorf("%v: %v, %d", r, got, e)
		}
		// Only the days of the changed flight matter, which are those of the flight, too.
		short := during(days(springEU-7, springEU-1), f)
		if _, e := Apply(world(), timetable(short), r); e == api.ErrTime {
			t.Errorf("%v: the flight is not operated on the day of the shift", r)
		}
	}
}

func TestApplyOfTheFirstChangedFlightThatIsNotValid(t *testing.T) {
	night := modified(ba(days(newYear, newYear+4)), func(f *api.Flight) { f.Legs = []api.Leg{leg("LHR", "JFK", -1440, 0)} })
	noon := ba(days(newYear+5, newYear+9))
	late := modified(ba(days(springEU, springEU)), func(f *api.Flight) { f.Legs = []api.Leg{leg("LHR", "LGW", 0, 30)} })
	all := days(newYear, springEU)
	for _, c := range []struct {
		l       []api.Flight
		minutes int
		want    api.Errno
	}{
		// The first, a later one, both with different errors, none.
		{timetable(night, noon), -10, api.ErrArg}, {timetable(noon, night), -10, api.ErrArg}, {timetable(noon, called("AF", 117, night), night), -10, api.ErrArg},
		{timetable(late, noon), 70, api.ErrTime}, {timetable(noon, late), 70, api.ErrTime}, {timetable(night, noon, late), 5300, api.ErrArg}, {timetable(late, noon, night), -10, api.ErrArg},
		{timetable(called("AF", 117, night), noon), -10, api.OK}, {timetable(night, noon, late), 10, api.OK},
	} {
		r := api.Revision{Kind: api.VTime, Carrier: "BA", Number: 117, Period: all, Minutes: c.minutes}
		if c.want == api.OK {
			if got, e := Apply(world(), c.l, r); e != api.OK || len(got) != len(c.l) {
				t.Errorf("%v: %v, %d", c.l, got, e)
			}
			continue
		}
		applyFails(t, c.l, r, c.want)
	}
	// Two errors, in both orders: ErrTime of the one, ErrArg of the other.
	edge := modified(ba(days(newYear, newYear+4)), func(f *api.Flight) { f.Legs = []api.Leg{leg("LHR", "JFK", 5000, 5750)} })
	r := api.Revision{Kind: api.VTime, Carrier: "BA", Number: 117, Period: all, Minutes: 70}
	applyFails(t, timetable(edge, late), r, api.ErrArg)
	applyFails(t, timetable(late, edge), r, api.ErrTime)
	applyFails(t, timetable(noon, late, edge), r, api.ErrTime)
	// The order is that of the list, not that of the days; and a flight that is not touched does not matter.
	applyFails(t, timetable(late, noon, edge), r, api.ErrTime)
	r.Period = days(newYear, newYear+9)
	applyFails(t, timetable(late, edge), r, api.ErrArg)
	r.Period = one(springEU)
	applyFails(t, timetable(edge, late), r, api.ErrTime)
	// An equipment and legs that are wrong for all flights, and legs that are wrong for one of them only.
	plane, route := change(api.VEquip, all), change(api.VReplace, all)
	plane.Equip, route.Legs = "38", []api.Leg{leg("LHR", "LGW", 70, 100)}
	applyFails(t, timetable(noon, night), plane, api.ErrName)
	applyFails(t, timetable(called("AF", 117, noon), night, late), plane, api.ErrName)
	for _, l := range [][]api.Flight{timetable(noon, late), timetable(late, noon), timetable(night, called("AF", 117, late), noon, late)} {
		applyFails(t, l, route, api.ErrTime)
	}
	route.Period = days(newYear, newYear+9)
	applyIs(t, timetable(night, late), route, modified(during(canonical(newYear, newYear+4), night), func(f *api.Flight) { f.Legs = route.Legs }), late)
}

// applied returns the result of Apply, by the definition.
func applied(p api.Places, l []api.Flight, r api.Revision) ([]api.Flight, api.Errno) {
	if r.Kind < 1 || r.Kind > 5 {
		return nil, api.ErrKind
	}
	if e := period.Check(r.Period); e != api.OK {
		return nil, e
	}
	var list, changed []api.Flight
	touched := 0
	for _, f := range l {
		parts := make([][]int, 4)
		for _, day := range period.Days(f.Period) {
			switch {
			case day < r.Period.From:
				parts[0] = append(parts[0], day)
			case day > r.Period.To:
				parts[1] = append(parts[1], day)
			case period.Has(r.Period, day):
				parts[2] = append(parts[2], day)
			default:
				parts[3] = append(parts[3], day)
			}
		}
		if f.Carrier != r.Carrier || f.Number != r.Number || len(parts[2]) == 0 {
			list = append(list, f)
			continue
		}
		touched++
		for day := f.Period.From; day <= f.Period.To; day++ {
			for i, part := range parts {
				if len(part) == 0 || part[0] != day || i == 2 && r.Kind == api.VCancel {
					continue
				}
				g := during(around(part), f)
				if i == 2 {
					g = revised(g, r)
					changed = append(changed, g)
				}
				list = append(list, g)
			}
		}
	}
	if r.Kind == api.VNew && touched > 0 {
		return nil, api.ErrTwice
	}
	if r.Kind != api.VNew && touched == 0 {
		return nil, api.ErrNone
	}
	if r.Kind == api.VNew {
		f := api.Flight{Carrier: r.Carrier, Number: r.Number, Period: r.Period, Legs: r.Legs}
		list, changed = append(list, f), append(changed, f)
	}
	for _, f := range changed {
		if faults := flight.Check(p, f); len(faults) > 0 {
			return nil, faults[0].Err
		}
	}
	return list, api.OK
}

// revised returns a flight with the legs that it has after a revision.
func revised(f api.Flight, r api.Revision) api.Flight {
	switch r.Kind {
	case api.VTime:
		return moved(r.Minutes, f)
	case api.VEquip:
		return flown(r.Equip, f)
	case api.VReplace:
		return modified(f, func(f *api.Flight) { f.Legs = r.Legs })
	}
	return f
}

// kit returns flights of three names with different days and legs, of which timetables are made.
func kit() []api.Flight {
	shift := modified(ba(days(springEU-1, springEU+1)), func(f *api.Flight) { f.Legs = []api.Leg{leg("LHR", "LGW", 0, 30)} })
	return []api.Flight{
		ba(days(newYear, newYear+6)), long(days(newYear, newYear+6)), long(days(newYear+7, newYear+9)), ba(some(newYear, newYear+13, 85)), long(some(newYear, newYear+13, 42)), ba(one(newYear + 3)), long(one(newYear + 10)), ba(some(newYear-3, newYear+4, 64)), shift,
		called("AF", 117, ba(days(newYear, newYear+6))), called("BA", 118, long(days(newYear+3, newYear+9))), moved(-1900, ba(days(newYear+7, newYear+20))),
	}
}

// rightTimetables returns all right timetables with up to three flights of kit.
func rightTimetables() [][]api.Flight {
	p := world()
	all := [][]api.Flight{nil}
	var add func(l []api.Flight)
	add = func(l []api.Flight) {
		for _, f := range kit() {
			more := append(slices.Clone(l), f)
			if len(schedule.Check(p, more)) > 0 {
				continue
			}
			all = append(all, more)
			if len(more) < 3 {
				add(more)
			}
		}
	}
	add(nil)
	return all
}

// changes returns revisions of all kinds on different days.
func changes() []api.Revision {
	var all []api.Revision
	for _, p := range []api.Period{
		days(newYear, newYear+6), days(newYear-9, newYear+30), days(newYear+2, newYear+4), one(newYear), one(newYear + 3), one(newYear + 9), days(newYear+5, newYear+8), some(newYear, newYear+13, 64), some(newYear-3, newYear+9, 8), some(newYear+1, newYear+8, 36),
		days(newYear+30, newYear+31), days(springEU-9, springEU+9), one(springEU), some(newYear, newYear, 1), days(newYear+1, newYear),
	} {
		for kind := range 7 {
			all = append(all, change(kind, p))
		}
		for _, minutes := range []int{-70, 70, 5100} {
			r := change(api.VTime, p)
			r.Minutes = minutes
			all = append(all, r)
		}
		for _, r := range []api.Revision{change(api.VEquip, p), change(api.VReplace, p), change(api.VNew, p)} {
			r.Equip, r.Legs = "x", []api.Leg{leg("LHR", "LGW", 70, 100)}
			all = append(all, r)
		}
		all = append(all, to("AF", 117, change(api.VCancel, p)), to("BA", 118, change(api.VReplace, p)), to("BA", 118, change(api.VNew, p)), to("AF", 118, change(api.VTime, p)))
	}
	return all
}

func TestApplyIsAsDefined(t *testing.T) {
	p := world()
	count := make(map[api.Errno]int)
	for _, l := range rightTimetables() {
		for _, r := range changes() {
			got, e := Apply(p, l, r)
			want, wantE := applied(p, l, r)
			if e != wantE || !same(got, want) {
				t.Fatalf("Apply(.., %v, %v) =\n%v, %d, not\n%v, %d", l, r, got, e, want, wantE)
			}
			count[e]++
		}
	}
	for _, e := range []api.Errno{api.OK, api.ErrKind, api.ErrDay, api.ErrNone, api.ErrTwice, api.ErrName, api.ErrArg, api.ErrTime} {
		if count[e] < 100 {
			t.Errorf("error %d occurs %d times", e, count[e])
		}
	}
}

// allIs fails if All does not return these results.
func allIs(t *testing.T, l []api.Flight, rs []api.Revision, n int, e api.Errno, want ...api.Flight) {
	t.Helper()
	if got, gotN, gotE := All(world(), l, rs); gotE != e || gotN != n || !same(got, want) {
		t.Errorf("All(.., %v, %v) =\n%v, %d, %d, not\n%v, %d, %d", l, rs, got, gotN, gotE, want, n, e)
	}
}

func TestAll(t *testing.T) {
	week := canonical(newYear, newYear+6)
	l := timetable(ba(week))
	allIs(t, nil, nil, 0, api.OK)
	allIs(t, l, nil, 0, api.OK, l...)
	allIs(t, l, []api.Revision{}, 0, api.OK, l...)
	// Without a revision even a timetable that is not right is returned as it is.
	odd := timetable(ba(some(newYear, newYear+9, 64)), ba(week), ba(week), api.Flight{})
	allIs(t, odd, nil, 0, api.OK, odd...)
	allIs(t, l, []api.Revision{change(api.VTime, week)}, 1, api.OK, moved(10, ba(week)))
	allIs(t, l, []api.Revision{change(api.VTime, week), change(api.VTime, week), change(api.VEquip, week)}, 3, api.OK, flown("380", moved(20, ba(week))))
	// Each revision changes what those before it made: what was cancelled is free, what is new can be cancelled.
	allIs(t, l, []api.Revision{change(api.VCancel, week), change(api.VNew, week)}, 2, api.OK, rerouted(ba(week)))
	allIs(t, nil, []api.Revision{change(api.VNew, week), change(api.VEquip, one(newYear)), change(api.VCancel, days(newYear+1, newYear+6))}, 3, api.OK, flown("380", rerouted(ba(canonical(newYear, newYear)))))
	// An error at the first, a middle, the last one: the index, and nothing else.
	good, bad := change(api.VTime, week), change(api.VCancel, one(newYear+7))
	allIs(t, l, []api.Revision{bad}, 0, api.ErrNone)
	allIs(t, l, []api.Revision{bad, good, good}, 0, api.ErrNone)
	allIs(t, l, []api.Revision{good, bad, good}, 1, api.ErrNone)
	allIs(t, l, []api.Revision{good, good, bad}, 2, api.ErrNone)
	// The first of two errors, whatever they are.
	allIs(t, l, []api.Revision{good, {}, bad}, 1, api.ErrKind)
	allIs(t, l, []api.Revision{good, bad, {}}, 1, api.ErrNone)
	allIs(t, l, []api.Revision{good, change(api.VNew, one(newYear)), bad}, 1, api.ErrTwice)
	allIs(t, l, []api.Revision{change(api.VCancel, week), good}, 1, api.ErrNone)
	allIs(t, l, []api.Revision{change(api.VEquip, days(newYear+1, newYear)), good}, 0, api.ErrDay)
	allIs(t, nil, []api.Revision{good}, 0, api.ErrNone)
	late := good
	late.Minutes = 3000
	allIs(t, l, []api.Revision{late, late}, 1, api.ErrArg)
}

func TestAllIsApplyOneAfterTheOther(t *testing.T) {
	p := world()
	rs := changes()
	count := make(map[int]int)
	for i, l := range rightTimetables() {
		var list []api.Revision
		for k := range 5 {
			list = append(list, rs[(i*31+k*k*17+k*7)%len(rs)])
		}
		for n := range len(list) + 1 {
			want, index, wantE := l, n, api.OK
			for k, r := range list[:n] {
				next, e := Apply(p, want, r)
				if e != api.OK {
					want, index, wantE = nil, k, e
					break
				}
				want = next
			}
			got, gotN, e := All(p, l, list[:n])
			if e != wantE || gotN != index || !same(got, want) {
				t.Fatalf("All(.., %v, %v) = %v, %d, %d, not %v, %d, %d", l, list[:n], got, gotN, e, want, index, wantE)
			}
			if e == api.OK {
				count[n]++
			}
		}
	}
	if count[2] < 20 {
		t.Error(count)
	}
}

// P10.2

func TestTimetablesAreRightAfterChanges(t *testing.T) {
	p := world()
	count := make(map[int]int)
	for _, l := range rightTimetables() {
		for _, r := range changes() {
			got, e := Apply(p, l, r)
			if x := schedule.Check(p, got); len(x) > 0 {
				t.Fatalf("Apply(.., %v, %v) = %v: %v", l, r, got, x)
			}
			if e == api.OK {
				count[r.Kind]++
			}
		}
	}
	for kind := api.VNew; kind <= api.VReplace; kind++ {
		if count[kind] < 100 {
			t.Error(count)
		}
	}
}

func TestTimetablesAreRightAfterManyChanges(t *testing.T) {
	p := world()
	l := timetable(ba(days(newYear, newYear+9)), called("AF", 117, long(days(newYear, newYear+9))))
	ok := 0
	for round := range 20 {
		for i, r := range changes() {
			if (i*7+round*13)%5 == 0 {
				continue
			}
			next, e := Apply(p, l, r)
			if e != api.OK {
				continue
			}
			ok++
			if x := schedule.Check(p, next); len(x) > 0 {
				t.Fatalf("Apply(.., %v, %v) = %v: %v", l, r, next, x)
			}
			unchanged(t, l, next, r)
			l = next
		}
		if x := Pack(l); len(schedule.Check(p, x)) > 0 || len(x) > len(l) {
			t.Fatalf("Pack(%v) = %v", l, x)
		}
	}
	if ok < 200 || len(l) < 5 {
		t.Errorf("%d changes, %d flights", ok, len(l))
	}
}

// P10.3

// window is where all flights of kit and their changes are.
func window() []int {
	return append(between(newYear-15, newYear+40), between(springEU-12, springEU+12)...)
}

// unchanged fails if a revision changed a flight number on a day that is not its own, or another flight number.
func unchanged(t *testing.T, before, now []api.Flight, r api.Revision) {
	t.Helper()
	type name struct {
		carrier string
		number  int
	}
	seen := make(map[name]bool)
	for _, f := range append(slices.Clone(before), now...) {
		if seen[name{f.Carrier, f.Number}] {
			continue
		}
		seen[name{f.Carrier, f.Number}] = true
		for _, day := range window() {
			if f.Carrier == r.Carrier && f.Number == r.Number && period.Has(r.Period, day) {
				continue
			}
			was, ok := schedule.On(before, f.Carrier, f.Number, day)
			is, still := schedule.On(now, f.Carrier, f.Number, day)
			if ok != still || !slices.Equal(was.Legs, is.Legs) {
				t.Fatalf("%v changes %s %d on %d: %v to %v", r, f.Carrier, f.Number, day, was, is)
			}
		}
	}
}

func TestOtherDaysAreNotChanged(t *testing.T) {
	p := world()
	for i, l := range rightTimetables() {
		for k, r := range changes() {
			if (i+k)%5 > 0 {
				continue
			}
			if got, e := Apply(p, l, r); e == api.OK {
				unchanged(t, l, got, r)
			}
		}
	}
}

func TestOwnDaysAreChanged(t *testing.T) {
	p := world()
	for i, l := range rightTimetables() {
		for k, r := range changes() {
			if (i+k)%3 > 0 {
				continue
			}
			got, e := Apply(p, l, r)
			if e != api.OK {
				continue
			}
			for _, day := range period.Days(r.Period) {
				was, operated := schedule.On(l, r.Carrier, r.Number, day)
				is, ok := schedule.On(got, r.Carrier, r.Number, day)
				want := revised(was, r).Legs
				if r.Kind == api.VNew {
					want = r.Legs
				}
				if ok != (r.Kind == api.VNew || operated && r.Kind != api.VCancel) || ok && !slices.Equal(is.Legs, want) {
					t.Fatalf("%v on %d: %v to %v", r, day, was, is)
				}
			}
		}
	}
}

func TestDaysThatDiffer(t *testing.T) {
	// By schedule.Differ, as the overview has it: a revision that cancels the Sundays.
	l := timetable(ba(days(newYear, newYear+13)), called("AF", 117, ba(days(newYear, newYear+13))))
	for _, kind := range kinds() {
		got, e := Apply(world(), l, change(kind, some(newYear, newYear+6, 64)))
		if x := schedule.Differ(l, got, "BA", 117, days(newYear-9, newYear+30)); e != api.OK || !slices.Equal(x, []int{newYear + 3}) {
			t.Error(kind, x, e)
		}
		if x := schedule.Differ(l, got, "AF", 117, days(newYear-9, newYear+30)); len(x) > 0 {
			t.Error(kind, x)
		}
	}
}

// P10.4

// packIs fails if Pack does not return flights of BA 117 with one leg and these periods.
func packIs(t *testing.T, l []api.Period, want ...api.Period) {
	t.Helper()
	var flights, packed []api.Flight
	for _, p := range l {
		flights = append(flights, ba(p))
	}
	for _, p := range want {
		packed = append(packed, ba(p))
	}
	if got := Pack(flights); !same(got, packed) {
		t.Errorf("Pack of %v = %v, not %v", l, got, want)
	}
}

func TestPackOfPeriods(t *testing.T) {
	for _, c := range []struct{ l, want []api.Period }{
		{nil, nil}, {[]api.Period{}, nil},
		// No days: not valid, or a weekday that does not occur. 9497 is a Thursday.
		{[]api.Period{some(9497, 9497, 1)}, nil}, {[]api.Period{some(9497, 9499, 7), one(9497)}, []api.Period{some(9497, 9497, 8)}},
		{[]api.Period{days(9498, 9497), one(9497), days(-1, 9), {}}, []api.Period{some(9497, 9497, 8)}},
		{[]api.Period{{}, one(1)}, []api.Period{some(1, 1, 64)}}, {[]api.Period{one(1), some(0, 0, 1), some(2, 1, 127)}, []api.Period{some(1, 1, 64)}}, {[]api.Period{some(1, 0, 64), one(0), one(1)}, []api.Period{some(0, 1, 96)}},
		// Periods that are not canonical.
		{[]api.Period{one(9497)}, []api.Period{some(9497, 9497, 8)}}, {[]api.Period{some(9497, 9503, 96)}, []api.Period{some(9499, 9500, 96)}}, {[]api.Period{some(9490, 9504, 64)}, []api.Period{some(9493, 9500, 64)}},
		{[]api.Period{some(9497, 9503, 64), some(9504, 9511, 64)}, []api.Period{some(9500, 9507, 64)}},
		// One after the other, in both orders, with a gap, with a day in common, the one within the other, equal.
		{[]api.Period{days(9497, 9503), days(9504, 9510)}, []api.Period{days(9497, 9510)}}, {[]api.Period{days(9504, 9510), days(9497, 9503)}, []api.Period{days(9497, 9510)}},
		{[]api.Period{days(9497, 9503), days(9505, 9511)}, []api.Period{days(9497, 9503), days(9505, 9511)}}, {[]api.Period{days(9505, 9511), days(9497, 9503)}, []api.Period{days(9505, 9511), days(9497, 9503)}},
		{[]api.Period{days(9497, 9503), days(9503, 9510)}, []api.Period{days(9497, 9510)}}, {[]api.Period{days(9497, 9510), days(9500, 9501)}, []api.Period{days(9497, 9510)}}, {[]api.Period{days(9500, 9501), days(9497, 9510)}, []api.Period{days(9497, 9510)}},
		{[]api.Period{days(9497, 9510), days(9497, 9510)}, []api.Period{days(9497, 9510)}}, {[]api.Period{one(9497), one(9497), one(9497)}, []api.Period{some(9497, 9497, 8)}}, {[]api.Period{some(9497, 9510, 5), some(9497, 9510, 4)}, []api.Period{some(9501, 9510, 5)}},
		// Single days: of a week, of the same weekday, and neither.
		{[]api.Period{one(9497), one(9500)}, []api.Period{some(9497, 9500, 72)}}, {[]api.Period{one(9503), one(9497)}, []api.Period{some(9497, 9503, 12)}}, {[]api.Period{one(9497), one(9504)}, []api.Period{some(9497, 9504, 8)}},
		{[]api.Period{one(9497), one(9511)}, []api.Period{some(9497, 9497, 8), some(9511, 9511, 8)}}, {[]api.Period{one(9497), one(9505)}, []api.Period{some(9497, 9497, 8), some(9505, 9505, 16)}}, {[]api.Period{one(9497), one(9504), one(9511)}, []api.Period{some(9497, 9511, 8)}},
		// Weekdays: the Sundays and the others, and with another length.
		{[]api.Period{some(9497, 9510, 63), some(9497, 9510, 64)}, []api.Period{days(9497, 9510)}}, {[]api.Period{some(9497, 9510, 63), some(9497, 9503, 64)}, []api.Period{some(9497, 9510, 63), some(9500, 9500, 64)}},
		{[]api.Period{some(9497, 9510, 1), some(9497, 9510, 2)}, []api.Period{some(9501, 9509, 3)}}, {[]api.Period{some(9501, 9508, 1), some(9502, 9516, 2)}, []api.Period{some(9501, 9508, 1), some(9502, 9516, 2)}},
		{[]api.Period{some(9501, 9515, 1), some(9502, 9509, 2)}, []api.Period{some(9501, 9515, 3)}}, {[]api.Period{some(9501, 9508, 3), one(9509)}, []api.Period{some(9501, 9509, 3)}}, {[]api.Period{some(9501, 9508, 3), one(9510)}, []api.Period{some(9501, 9508, 3), some(9510, 9510, 4)}},
		// Three, which are joined one after the other, also where two of them cannot be.
		{[]api.Period{days(9497, 9499), days(9500, 9503), days(9504, 9510)}, []api.Period{days(9497, 9510)}}, {[]api.Period{days(9497, 9499), days(9504, 9510), days(9500, 9503)}, []api.Period{days(9497, 9510)}},
		{[]api.Period{days(9500, 9503), days(9504, 9510), days(9497, 9499)}, []api.Period{days(9497, 9510)}}, {[]api.Period{days(9504, 9510), days(9497, 9499), days(9500, 9503)}, []api.Period{days(9497, 9510)}},
		{[]api.Period{some(9497, 9499, 56), some(9500, 9503, 71), days(9504, 9510)}, []api.Period{days(9497, 9510)}}, {[]api.Period{some(9497, 9510, 10), some(9497, 9510, 69), some(9497, 9510, 48)}, []api.Period{days(9497, 9510)}},
		// Flights that can be joined in two ways: the first later one is taken.
		{[]api.Period{some(9501, 9508, 1), one(9502), one(9515)}, []api.Period{some(9501, 9508, 3), some(9515, 9515, 1)}}, {[]api.Period{some(9501, 9508, 1), one(9515), one(9502)}, []api.Period{some(9501, 9515, 1), some(9502, 9502, 2)}},
		// The first flight is joined, though a later one would fit better.
		{[]api.Period{one(9502), some(9501, 9508, 1), one(9515)}, []api.Period{some(9501, 9508, 3), some(9515, 9515, 1)}}, {[]api.Period{one(9502), one(9515), some(9501, 9508, 1)}, []api.Period{some(9501, 9508, 3), some(9515, 9515, 1)}},
		{[]api.Period{one(9515), some(9501, 9508, 1), one(9502)}, []api.Period{some(9501, 9515, 1), some(9502, 9502, 2)}},
		// The first one can be joined only after two others were: Monday to Wednesday of two weeks, with the Tuesday, and the Monday and the Wednesday, of the third.
		{[]api.Period{some(9501, 9510, 7), one(9516), some(9515, 9517, 5)}, []api.Period{some(9501, 9517, 7)}}, {[]api.Period{some(9501, 9510, 7), one(9530), one(9516), some(9515, 9517, 5)}, []api.Period{some(9501, 9517, 7), some(9530, 9530, 2)}},
		// As many days as a period may have, and one more.
		{[]api.Period{days(0, 399), days(400, 799)}, []api.Period{days(0, 799)}}, {[]api.Period{days(0, 399), days(400, 800)}, []api.Period{days(0, 399), days(400, 800)}}, {[]api.Period{days(0, 799), one(800)}, []api.Period{days(0, 799), canonical(800, 800)}},
		{[]api.Period{days(lastDay-799, lastDay-1), one(lastDay)}, []api.Period{days(lastDay-799, lastDay)}}, {[]api.Period{one(0), one(lastDay)}, []api.Period{canonical(0, 0), canonical(lastDay, lastDay)}}, {[]api.Period{one(0), one(799)}, []api.Period{canonical(0, 0), canonical(799, 799)}},
		{[]api.Period{days(100, 799), days(800, 850), days(0, 99)}, []api.Period{days(100, 850), days(0, 99)}}, {[]api.Period{days(100, 799), days(800, 1000), days(0, 99)}, []api.Period{days(0, 799), days(800, 1000)}}, {[]api.Period{days(0, 99), days(100, 799), days(800, 850)}, []api.Period{days(0, 799), days(800, 850)}},
	} {
		packIs(t, c.l, c.want...)
	}
	for _, p := range badPeriods() {
		packIs(t, []api.Period{p})
		packIs(t, []api.Period{p, one(newYear), p}, some(newYear, newYear, 8))
	}
}

func TestPackOfFlights(t *testing.T) {
	early, late := days(newYear, newYear+6), days(newYear+7, newYear+13)
	both := days(newYear, newYear+13)
	// Flights that differ in more than their periods: in the carrier, the number, a field of one leg, the number or order of the legs.
	others := []api.Flight{
		called("AF", 117, long(late)), called("BA", 118, long(late)), ba(late), moved(1, long(late)), flown("777", long(late)),
		modified(long(late), func(f *api.Flight) { f.Legs = f.Legs[:2] }), modified(long(late), func(f *api.Flight) { f.Legs = append(f.Legs, leg("SFO", "LGW", 2000, 3000)) }), modified(long(late), func(f *api.Flight) { slices.Reverse(f.Legs) }), modified(long(late), func(f *api.Flight) { f.Legs = nil }),
	}
	for i := range 3 {
		for _, change := range []func(x *api.Leg){func(x *api.Leg) { x.From = "LGW" }, func(x *api.Leg) { x.To = "LGW" }, func(x *api.Leg) { x.Dep++ }, func(x *api.Leg) { x.Arr++ }, func(x *api.Leg) { x.Equip = "380" }} {
			others = append(others, modified(long(late), func(f *api.Flight) { change(&f.Legs[i]) }))
		}
	}
	for _, other := range others {
		for _, l := range [][]api.Flight{timetable(long(early), other), timetable(other, long(early)), timetable(during(both, long(early)), other)} {
			if got := Pack(l); !same(got, l) {
				t.Errorf("Pack(%v) = %v", l, got)
			}
		}
		// What is between two flights that are joined stays; the join is in the place of the first one.
		if got, want := Pack(timetable(long(early), other, long(late))), timetable(long(both), other); !same(got, want) {
			t.Errorf("%v, not %v", got, want)
		}
		if got, want := Pack(timetable(long(late), other, long(early))), timetable(long(both), other); !same(got, want) {
			t.Errorf("%v, not %v", got, want)
		}
		// Two pairs, one within or after the other.
		again := during(early, other)
		if got, want := Pack(timetable(long(early), other, again, long(late))), timetable(long(both), during(both, other)); !same(got, want) {
			t.Errorf("%v, not %v", got, want)
		}
		if got, want := Pack(timetable(long(early), other, long(late), again)), timetable(long(both), during(both, other)); !same(got, want) {
			t.Errorf("%v, not %v", got, want)
		}
		if got, want := Pack(timetable(other, long(early), long(late), again)), timetable(during(both, other), long(both)); !same(got, want) {
			t.Errorf("%v, not %v", got, want)
		}
	}
	// Flights that are not valid are joined all the same. An empty list of legs is the same as none.
	odd := api.Flight{Carrier: "x", Number: -1, Period: early, Legs: []api.Leg{{}}}
	if got, want := Pack(timetable(odd, during(late, odd))), timetable(during(both, odd)); !same(got, want) {
		t.Errorf("%v, not %v", got, want)
	}
	none := modified(during(late, odd), func(f *api.Flight) { f.Legs = []api.Leg{} })
	if got, want := Pack(timetable(api.Flight{Carrier: "x", Number: -1, Period: early}, none)), timetable(api.Flight{Carrier: "x", Number: -1, Period: both}); !same(got, want) {
		t.Errorf("%v, not %v", got, want)
	}
}

func TestPackOfFlightsWhoseTextsAreAlike(t *testing.T) {
	with := func(carrier string, number int, legs ...api.Leg) api.Flight {
		return api.Flight{Carrier: carrier, Number: number, Legs: legs}
	}
	all := []api.Flight{
		with("B", 1), with("B1", 0), with("B", 10), with("", 1), with("B 1", 0), with("", 0), with(" ", 0), with("\"\"", 0), with("\\", 0), with("\"", 0),
		with("B", 1, api.Leg{From: "A", To: "BC"}), with("B", 1, api.Leg{From: "AB", To: "C"}), with("B", 1, api.Leg{From: "ABC"}), with("B", 1, api.Leg{To: "ABC"}), with("B", 1, api.Leg{From: "A B", To: "C"}), with("B", 1, api.Leg{From: "A", To: "B C"}), with("B", 1, api.Leg{From: "A", To: "\"B C\""}),
		with("B", 1, api.Leg{Dep: 1, Arr: 23}), with("B", 1, api.Leg{Dep: 12, Arr: 3}), with("B", 1, api.Leg{Dep: 1, Arr: 2, Equip: "3"}), with("B", 1, api.Leg{To: "1", Dep: 23}), with("B", 1, api.Leg{Dep: 1 << 32}), with("B", 1, api.Leg{Arr: 1 << 32}), with("B", 1, api.Leg{}), with("B", 1, api.Leg{}, api.Leg{}),
		with("B", 1, api.Leg{Equip: "7"}, api.Leg{From: "8"}), with("B", 1, api.Leg{Equip: "78"}, api.Leg{}), with("B", 1, api.Leg{}, api.Leg{From: "78"}), with("B", 1, api.Leg{From: "A", Equip: "X B C 0 0 Y"}), with("B", 1, api.Leg{From: "A", Equip: "X"}, api.Leg{From: "B", To: "C", Equip: "Y"}), with("B 1 A", 0, api.Leg{}),
	}
	for i, a := range all {
		for k, b := range all {
			l := timetable(during(canonical(newYear, newYear+6), a), during(canonical(newYear+7, newYear+13), b))
			want := l
			if i == k {
				want = timetable(during(canonical(newYear, newYear+13), a))
			}
			if got := Pack(l); !same(got, want) {
				t.Errorf("Pack(%#v) = %#v", l, got)
			}
		}
	}
}

// joined returns the join of two flights, by the definition: by trying all periods with the bounds of their days.
func joined(a, b api.Flight) (api.Flight, bool) {
	if a.Carrier != b.Carrier || a.Number != b.Number || !slices.Equal(a.Legs, b.Legs) {
		return api.Flight{}, false
	}
	all := append(period.Days(a.Period), period.Days(b.Period)...)
	slices.Sort(all)
	all = slices.Compact(all)
	for weekdays := 1; weekdays <= everyDay; weekdays++ {
		if p := some(all[0], all[len(all)-1], weekdays); slices.Equal(period.Days(p), all) {
			return during(around(all), a), true
		}
	}
	return api.Flight{}, false
}

// packed returns the result of Pack, by the definition.
func packed(l []api.Flight) []api.Flight {
	var all []api.Flight
	for _, f := range l {
		if x := period.Days(f.Period); len(x) > 0 {
			all = append(all, during(around(x), f))
		}
	}
	for {
		again := false
	pairs:
		for i := range all {
			for k := i + 1; k < len(all); k++ {
				if f, ok := joined(all[i], all[k]); ok {
					all[i], all = f, slices.Delete(all, k, k+1)
					again = true
					break pairs
				}
			}
		}
		if !again {
			return all
		}
	}
}

// packer checks Pack of lists, and counts what it did.
type packer struct{ lists, joins, steps int }

func (c *packer) check(t *testing.T, l []api.Flight) {
	t.Helper()
	got, want := Pack(l), packed(l)
	if !same(got, want) {
		t.Fatalf("Pack(%v) =\n%v, not\n%v", l, got, want)
	}
	if again := Pack(got); !same(again, got) {
		t.Fatalf("Pack(%v) = %v", got, again)
	}
	c.lists++
	if len(got) < len(l) {
		c.joins++
	}
	if len(got) < len(l)-2 {
		c.steps++
	}
}

func TestPackOfListsIsAsDefined(t *testing.T) {
	flights := []api.Flight{ba(some(9501, 9510, 7)), ba(one(9516)), ba(some(9515, 9517, 5)), ba(days(9518, 9520)), ba(one(9508)), long(days(9501, 9507)), long(days(9508, 9510)), called("BA", 118, ba(some(9501, 9510, 5))), ba(days(9502, 9501)), ba(some(9501, 9501, 2))}
	var c packer
	for _, a := range flights {
		for _, b := range flights {
			for _, d := range flights {
				c.check(t, timetable(a, b, d))
				c.check(t, timetable(a, called("BA", 118, b), d, b))
			}
		}
	}
	if c.lists != 2000 || c.joins < 500 || c.steps < 20 {
		t.Error(c)
	}
}

// numbers returns a source of numbers from 0 to n - 1 that look like chance.
func numbers(seed uint64) func(n int) int {
	return func(n int) int {
		seed = seed*6364136223846793005 + 1442695040888963407
		return int(seed >> 33 % uint64(n))
	}
}

func TestPackOfMixedListsIsAsDefined(t *testing.T) {
	next := numbers(1)
	var c packer
	for range 3000 {
		var l []api.Flight
		for range 2 + next(9) {
			from := 9501 + next(15)
			p := some(from, from+next(9), 1+next(everyDay))
			switch next(8) {
			case 0:
				l = append(l, long(p))
			case 1:
				l = append(l, called("AF", 117, ba(p)))
			case 2:
				l = append(l, ba(days(from, from+next(4))))
			case 3:
				l = append(l, ba(one(from)))
			default:
				l = append(l, ba(some(from, from+next(20), []int{7, 5, 2, 1, 4, 3, 127}[next(7)])))
			}
		}
		c.check(t, l)
	}
	if c.joins < 1500 || c.steps < 500 {
		t.Error(c)
	}
}

func TestPackOfCutFlightsIsAsDefined(t *testing.T) {
	// The days of a flight, distributed to several flights in every way that a number says, in two orders.
	all := between(9499, 9510)
	next := numbers(2)
	var c packer
	for range 1500 {
		groups := make([][]int, 2+next(4))
		for _, day := range all {
			i := next(len(groups))
			groups[i] = append(groups[i], day)
		}
		var l []api.Flight
		for _, group := range groups {
			// A group that is no period is cut into its days.
			if len(group) > 0 && slices.Equal(period.Days(around(group)), group) {
				l = append(l, ba(around(group)))
				continue
			}
			for _, day := range group {
				l = append(l, ba(one(day)))
			}
		}
		c.check(t, l)
		slices.Reverse(l)
		c.check(t, l)
	}
	if c.steps < 1000 {
		t.Error(c)
	}
}

func TestPackedTimetablesOperateAsBefore(t *testing.T) {
	p := world()
	check := func(l []api.Flight) {
		got := Pack(l)
		if x := schedule.Check(p, got); len(x) > 0 {
			t.Fatalf("Pack(%v) = %v: %v", l, got, x)
		}
		for _, f := range l {
			for _, d := range []api.Period{days(newYear-15, newYear+40), days(springEU-12, springEU+12)} {
				if x := schedule.Differ(l, got, f.Carrier, f.Number, d); len(x) > 0 {
					t.Fatalf("Pack(%v) = %v differs on %v", l, got, x)
				}
			}
		}
		if len(got) > len(l) {
			t.Fatalf("Pack(%v) = %v", l, got)
		}
	}
	for i, l := range rightTimetables() {
		check(l)
		for k, r := range changes() {
			if (i+k)%17 > 0 {
				continue
			}
			if next, e := Apply(p, l, r); e == api.OK {
				check(next)
				// What is changed and changed back is one flight again.
				if back := r; r.Kind == api.VTime {
					back.Minutes = -r.Minutes
					again, e := Apply(p, next, back)
					if e != api.OK || !same(Pack(again), Pack(l)) && !touchesTwo(l, r) {
						t.Fatalf("%v and back: %v, %d, not %v", r, again, e, l)
					}
				}
			}
		}
	}
}

// touchesTwo reports whether a timetable has two flights of the number of a revision, of which parts may be joined in other ways.
func touchesTwo(l []api.Flight, r api.Revision) bool {
	n := 0
	for _, f := range l {
		if f.Carrier == r.Carrier && f.Number == r.Number {
			n++
		}
	}
	return n > 1
}

func TestPackOfManyFlights(t *testing.T) {
	// All days of 800, each as a flight, in an order that looks like chance; and a day of each of many numbers.
	order := between(newYear, newYear+799)
	next := numbers(3)
	for i := range order {
		k := i + next(len(order)-i)
		order[i], order[k] = order[k], order[i]
	}
	var l []api.Flight
	for _, day := range order {
		l = append(l, ba(one(day)))
	}
	for i := range 9999 {
		l = append(l, called("AF", i+1, long(one(newYear))))
	}
	got := Pack(l)
	// How the days are joined depends on their order, but they are the same.
	covered := make(map[int]bool)
	for i, f := range got {
		if i > 0 && f.Carrier == "BA" && got[i-1].Carrier == "AF" {
			t.Fatal("the order is not that of the list")
		}
		for _, day := range period.Days(f.Period) {
			if f.Carrier != "BA" {
				continue
			}
			if covered[day] {
				t.Fatalf("the day %d twice", day)
			}
			covered[day] = true
		}
	}
	if len(covered) != 800 || len(got) > 9999+400 {
		t.Errorf("%d days, %d flights", len(covered), len(got))
	}
	slices.Sort(order)
	l = nil
	for _, day := range order {
		l = append(l, ba(one(day)))
	}
	if got := Pack(l); !same(got, timetable(ba(days(newYear, newYear+799)))) {
		t.Error(got)
	}
	// In ascending order, one flight for each 800 days.
	l = nil
	for day := range api.MaxDay {
		l = append(l, ba(one(day)))
	}
	if got := Pack(l); len(got) != 46 || got[45].Period != canonical(45*800, lastDay) {
		t.Errorf("%d flights, the last one %v", len(got), got[len(got)-1])
	}
}

// P10.5

// touchedIs fails if Touched does not return these lists of indices.
func touchedIs(t *testing.T, l []api.Flight, segs []api.Seg, gone, late []int) {
	t.Helper()
	if a, b := Touched(world(), l, segs); !slices.Equal(a, gone) || !slices.Equal(b, late) {
		t.Errorf("Touched(.., %v, %v) = %v, %v, not %v, %v", l, segs, a, b, gone, late)
	}
}

// segment returns a segment, with times that are counted from the beginning of its day.
func segment(carrier string, number, day int, from, to string, dep, arr int) api.Seg {
	return api.Seg{Carrier: carrier, Number: number, Day: day, From: from, To: to, Dep: day*1440 + dep, Arr: day*1440 + arr}
}

func TestTouched(t *testing.T) {
	l := timetable(ba(days(newYear+7, newYear+9)), called("AF", 117, ba(days(newYear, newYear+6))), long(days(newYear, newYear+6)))
	right := []api.Seg{
		segment("BA", 117, newYear, "CDG", "LHR", 340, 420), segment("BA", 117, newYear, "CDG", "SFO", 340, 1480), segment("BA", 117, newYear+6, "LHR", "JFK", 500, 1000), segment("BA", 117, newYear+7, "LHR", "JFK", 500, 1000), segment("AF", 117, newYear, "LHR", "JFK", 500, 1000),
	}
	touchedIs(t, l, right, nil, nil)
	touchedIs(t, l, nil, nil, nil)
	touchedIs(t, l, []api.Seg{}, nil, nil)
	touchedIs(t, nil, nil, nil, nil)
	touchedIs(t, nil, right, []int{0, 1, 2, 3, 4}, nil)
	// Other days, other airports, other names.
	gone := []api.Seg{
		segment("BA", 117, newYear-1, "CDG", "LHR", 340, 420), segment("BA", 117, newYear+10, "LHR", "JFK", 500, 1000), segment("AF", 117, newYear+7, "LHR", "JFK", 500, 1000), segment("BA", 117, newYear+7, "CDG", "LHR", 340, 420), segment("BA", 117, newYear+7, "LHR", "SFO", 500, 1480),
		segment("BA", 117, newYear, "JFK", "LHR", 500, 1000), segment("BA", 117, newYear, "LGW", "JFK", 500, 1000), segment("BA", 117, newYear, "LHR", "LHR", 500, 500), segment("BA", 117, newYear, "", "", 500, 1000), segment("BA", 117, newYear, "LHR", "XXX", 500, 1000),
		segment("BA", 118, newYear, "LHR", "JFK", 500, 1000), segment("BB", 117, newYear, "LHR", "JFK", 500, 1000), segment("", 0, newYear, "LHR", "JFK", 500, 1000), {}, segment("BA", 1<<32+117, newYear, "LHR", "JFK", 500, 1000), segment("BA", 117, 1<<32+newYear, "LHR", "JFK", 500, 1000),
	}
	touchedIs(t, l, gone, between(0, len(gone)-1), nil)
	// Other times: the departure, the arrival, both; a minute, an hour, a day, and what is the same in 32 bits.
	var late []api.Seg
	for _, minutes := range []int{1, -1, 60, -60, 1440, -1440, 1 << 32, -1 << 32, math.MaxInt, math.MinInt} {
		for _, s := range right {
			dep, arr, both := s, s, s
			dep.Dep += minutes
			arr.Arr += minutes
			both.Dep += minutes
			both.Arr += minutes
			late = append(late, dep, arr, both)
		}
	}
	touchedIs(t, l, late, nil, between(0, len(late)-1))
	// One that does not exist, at other times, is gone only.
	none := segment("BA", 117, newYear-1, "CDG", "LHR", 341, 421)
	touchedIs(t, l, []api.Seg{none, right[0], late[0], none, late[1], right[1], right[1], late[0]}, []int{0, 3}, []int{2, 4, 7})
	touchedIs(t, l, append(slices.Clone(late), gone...), between(len(late), len(late)+len(gone)-1), between(0, len(late)-1))
	// A segment whose airports are exchanged in time has other times than those of the whole flight.
	touchedIs(t, l, []api.Seg{segment("BA", 117, newYear, "CDG", "LHR", 340, 1480), segment("BA", 117, newYear, "JFK", "SFO", 340, 1480)}, nil, []int{0, 1})
}

func TestTouchedAfterChanges(t *testing.T) {
	week := days(newYear, newYear+6)
	l := timetable(long(week))
	var segs []api.Seg
	for _, day := range period.Days(week) {
		all, _ := flight.Segs(world(), l[0], day)
		segs = append(segs, all...)
	}
	if len(segs) != 42 {
		t.Fatal(segs)
	}
	touchedIs(t, l, segs, nil, nil)
	for _, c := range []struct {
		r          api.Revision
		gone, late []int
	}{
		{change(api.VCancel, days(newYear+1, newYear+2)), between(6, 17), nil}, {change(api.VTime, days(newYear+1, newYear+2)), nil, between(6, 17)}, {change(api.VEquip, week), nil, nil}, {change(api.VReplace, one(newYear+6)), []int{36, 38, 39, 40, 41}, []int{37}}, {change(api.VCancel, week), between(0, 41), nil},
	} {
		now, e := Apply(world(), l, c.r)
		if e != api.OK {
			t.Error(c.r, e)
		}
		touchedIs(t, now, segs, c.gone, c.late)
	}
	// On the day of a shift the same local times are other minutes.
	f := ba(days(springEU-1, springEU))
	touchedIs(t, timetable(f), []api.Seg{segment("BA", 117, springEU-1, "LHR", "JFK", 500, 1000), segment("BA", 117, springEU, "LHR", "JFK", 440, 1000), segment("BA", 117, springEU, "LHR", "JFK", 500, 1000)}, nil, []int{2})
}

func TestTouchedIsAsDefined(t *testing.T) {
	p := world()
	var segs []api.Seg
	for _, day := range []int{newYear, newYear + 3, newYear + 8, springEU} {
		for _, name := range []string{"BA", "AF"} {
			for _, stops := range [][2]string{{"LHR", "JFK"}, {"CDG", "SFO"}, {"JFK", "SFO"}, {"JFK", "LHR"}, {"LHR", "LGW"}} {
				for _, times := range [][2]int{{500, 1000}, {340, 1480}, {500, 1480}, {0, 30}, {510, 1010}} {
					segs = append(segs, segment(name, 117, day, stops[0], stops[1], times[0], times[1]))
				}
			}
		}
	}
	count := [3]int{}
	for _, l := range rightTimetables() {
		var gone, late []int
		for i, s := range segs {
			now, e := schedule.Seg(p, l, s.Carrier, s.Number, s.Day, s.From, s.To)
			switch {
			case e != api.OK:
				gone = append(gone, i)
			case now != s:
				late = append(late, i)
			default:
				count[2]++
			}
		}
		touchedIs(t, l, segs, gone, late)
		count[0] += len(gone)
		count[1] += len(late)
		// What is neither gone nor late is operated as it says.
		for i, s := range segs {
			if schedule.Operated(p, l, s) == (slices.Contains(gone, i) || slices.Contains(late, i)) {
				t.Fatalf("%v in %v", s, l)
			}
		}
	}
	if slices.Min(count[:]) < 100 {
		t.Error(count)
	}
}

// P10.6

// lines returns revisions of all kinds, with the lines that Print writes for them.
func lines() map[string]api.Revision {
	sunday := some(9500, 9503, 71)
	single := some(newYear, newYear, 8)
	with := func(r api.Revision, minutes int) api.Revision {
		r.Minutes = minutes
		return r
	}
	plane := func(r api.Revision, equip string) api.Revision {
		r.Equip = equip
		return r
	}
	six := []api.Leg{leg("AAA", "BBB", -1440, 5759), leg("CCC", "CCC", 0, 0), leg("LHR", "JFK", -1, 1), leg("ZZZ", "AAA", 5759, -1440), leg("AAA", "AAA", 10, 20), leg("LHR", "XXX", 500, 700)}
	return map[string]api.Revision{
		"new BA 117 2026-01-04/2026-01-07/1237 LGW CDG 600 730 777 CDG JFK 800 1000 777":     change(api.VNew, sunday),
		"replace BA 117 2026-01-04/2026-01-07/1237 LGW CDG 600 730 777 CDG JFK 800 1000 777": change(api.VReplace, sunday),
		"cancel BA 117 2026-01-04/2026-01-07/1237":                                           change(api.VCancel, sunday),
		"time BA 117 2026-01-04/2026-01-07/1237 10":                                          change(api.VTime, sunday),
		"equip BA 117 2026-01-04/2026-01-07/1237 380":                                        change(api.VEquip, sunday),
		"cancel 9W 1 2000-01-01/2000-01-01/1234567":                                          to("9W", 1, change(api.VCancel, one(0))),
		"cancel Z9 9999 2099-12-31/2099-12-31/1":                                             to("Z9", 9999, change(api.VCancel, some(lastDay, lastDay, 1))),
		"time BA 117 2026-01-01/2026-01-01/4 0":                                              with(change(api.VTime, single), 0),
		"time BA 117 2026-01-01/2026-01-01/4 -1":                                             with(change(api.VTime, single), -1),
		"time BA 117 2026-01-01/2026-01-01/4 9223372036854775807":                            with(change(api.VTime, single), math.MaxInt),
		"time BA 117 2026-01-01/2026-01-01/4 -9223372036854775808":                           with(change(api.VTime, single), math.MinInt),
		"equip BA 117 2026-01-01/2026-01-01/4 A1B":                                           plane(change(api.VEquip, single), "A1B"),
		"equip BA 117 2026-01-01/2026-01-01/4 000":                                           plane(change(api.VEquip, single), "000"),
		"replace AF 1 2026-01-01/2026-01-01/4 AAA BBB -1440 5759 777 CCC CCC 0 0 777 LHR JFK -1 1 777 ZZZ AAA 5759 -1440 777 AAA AAA 10 20 777 LHR XXX 500 700 777": {Kind: api.VReplace, Carrier: "AF", Number: 1, Period: single, Legs: six},
		"new AF 1 2026-01-01/2026-01-01/4 LHR LHR 0 0 ABC": {Kind: api.VNew, Carrier: "AF", Number: 1, Period: single, Legs: []api.Leg{{From: "LHR", To: "LHR", Equip: "ABC"}}},
	}
}

// sameRevision compares revisions.
func sameRevision(a, b api.Revision) bool {
	ok := slices.Equal(a.Legs, b.Legs)
	a.Legs, b.Legs = nil, nil
	return ok && reflect.DeepEqual(a, b)
}

func TestPrintAndParseOfLines(t *testing.T) {
	for s, r := range lines() {
		if got, e := Print(r); e != api.OK || got != s {
			t.Errorf("Print(%v) = %q, %d, not %q", r, got, e, s)
		}
		if got, e := Parse(s); e != api.OK || !sameRevision(got, r) {
			t.Errorf("Parse(%q) = %v, %d, not %v", s, got, e, r)
		}
		// An empty list of legs is no list.
		if r.Legs == nil {
			r.Legs = []api.Leg{}
			if got, e := Print(r); e != api.OK || got != s {
				t.Errorf("Print(%v) = %q, %d, not %q", r, got, e, s)
			}
		}
	}
}

// printFails fails if Print does not return this error.
func printFails(t *testing.T, r api.Revision, want api.Errno) {
	t.Helper()
	if s, e := Print(r); e != want || s != "" {
		t.Errorf("Print(%v) = %q, %d, not %d", r, s, e, want)
	}
}

func TestErrorsOfPrint(t *testing.T) {
	week := days(newYear, newYear+6)
	for _, kind := range oddKinds() {
		printFails(t, change(kind, week), api.ErrKind)
	}
	for kind := api.VNew; kind <= api.VReplace; kind++ {
		for _, carrier := range []string{"", "B", "BAW", "99", "ba", "B ", "B\"", "É"} {
			printFails(t, to(carrier, 117, change(kind, week)), api.ErrName)
		}
		for _, number := range []int{0, -1, 10000, 1<<32 + 117, math.MaxInt, math.MinInt} {
			printFails(t, to("BA", number, change(kind, week)), api.ErrArg)
		}
		for _, p := range badPeriods() {
			printFails(t, change(kind, p), period.Check(p))
		}
		// Fields that do not belong to the kind.
		r := change(kind, week)
		if r.Minutes = 1; kind != api.VTime {
			printFails(t, r, api.ErrArg)
			r.Minutes = math.MinInt
			printFails(t, r, api.ErrArg)
			r.Minutes = 1 << 32
			printFails(t, r, api.ErrArg)
		}
		r = change(kind, week)
		if r.Equip == "" {
			for _, equip := range []string{"777", "x", " "} {
				r.Equip = equip
				printFails(t, r, api.ErrArg)
			}
		}
		r = change(kind, week)
		if r.Legs == nil {
			for _, legs := range [][]api.Leg{legs(), {{}}, legs()[:1]} {
				r.Legs = legs
				printFails(t, r, api.ErrArg)
			}
		}
	}
	for _, equip := range []string{"", "38", "3800", "abc", "3 0", "38\n"} {
		r := change(api.VEquip, week)
		r.Equip = equip
		printFails(t, r, api.ErrName)
	}
	for _, kind := range []int{api.VNew, api.VReplace} {
		for _, c := range []struct {
			legs []api.Leg
			want api.Errno
		}{
			{nil, api.ErrSize}, {[]api.Leg{}, api.ErrSize}, {slices.Repeat(legs(), 4), api.ErrSize}, {[]api.Leg{{}}, api.ErrName}, {[]api.Leg{leg("LH", "JFK", 0, 0)}, api.ErrName}, {[]api.Leg{leg("LHR", "jfk", 0, 0)}, api.ErrName}, {[]api.Leg{leg("LHR", "JFK", -1441, 0)}, api.ErrArg}, {[]api.Leg{leg("LHR", "JFK", 0, 5760)}, api.ErrArg},
			{[]api.Leg{{From: "LHR", To: "JFK", Equip: "77"}}, api.ErrName}, {[]api.Leg{leg("LHR", "JFK", 0, 5760), {}}, api.ErrArg}, {append(legs(), api.Leg{}), api.ErrName},
		} {
			r := change(kind, week)
			r.Legs = c.legs
			printFails(t, r, c.want)
			// The errors of the flight are ahead of those of other fields, and behind those of its head.
			r.Minutes, r.Equip = 1, "777"
			printFails(t, r, c.want)
			printFails(t, to("", 0, r), api.ErrName)
			printFails(t, to("BA", 0, r), api.ErrArg)
			r.Period = days(2, 1)
			printFails(t, r, api.ErrDay)
		}
	}
}

// printError returns the error of Print, by the definition.
func printError(r api.Revision) api.Errno {
	_, e := flight.Print(api.Flight{Carrier: r.Carrier, Number: r.Number, Period: r.Period, Legs: r.Legs})
	whole := r.Kind == api.VNew || r.Kind == api.VReplace
	for _, rule := range []struct {
		violated bool
		e        api.Errno
	}{
		{r.Kind < 1 || r.Kind > 5, api.ErrKind}, {!text.Carrier(r.Carrier), api.ErrName}, {r.Number < 1 || r.Number > 9999, api.ErrArg}, {period.Check(r.Period) != api.OK, period.Check(r.Period)}, {whole && e != api.OK, e}, {r.Kind == api.VEquip && !text.Code(r.Equip, 3, 3), api.ErrName},
		{r.Kind != api.VTime && r.Minutes != 0, api.ErrArg}, {r.Kind != api.VEquip && r.Equip != "", api.ErrArg}, {!whole && len(r.Legs) > 0, api.ErrArg},
	} {
		if rule.violated {
			return rule.e
		}
	}
	return api.OK
}

// allRevisions calls f with revisions that are made of all combinations of some fields.
func allRevisions(f func(r api.Revision)) {
	var l []api.Revision
	for _, kind := range []int{-1, 0, 1, 2, 3, 4, 5, 6} {
		for _, carrier := range []string{"BA", "9W", "", "B", "99"} {
			for _, number := range []int{117, 1, 9999, 0, 10000} {
				for _, p := range []api.Period{some(9500, 9503, 71), days(0, 799), days(2, 1), days(0, 800), some(1, 1, 0)} {
					l = append(l, api.Revision{Kind: kind, Carrier: carrier, Number: number, Period: p})
				}
			}
		}
	}
	for _, r := range l {
		for _, minutes := range []int{0, 1, -1440, math.MinInt} {
			for _, equip := range []string{"", "777", "77", "7\"7"} {
				for _, legs := range [][]api.Leg{nil, {}, legs(), {{}}, {leg("LHR", "JFK", 0, 5760)}, slices.Repeat(legs(), 4)} {
					r.Minutes, r.Equip, r.Legs = minutes, equip, legs
					f(r)
				}
			}
		}
	}
}

func TestPrintIsAsDefined(t *testing.T) {
	count := make(map[api.Errno]int)
	allRevisions(func(r api.Revision) {
		s, e := Print(r)
		if want := printError(r); e != want {
			t.Fatalf("Print(%v) = %q, %d, not %d", r, s, e, want)
		}
		count[e]++
		if e != api.OK {
			if s != "" {
				t.Fatalf("Print(%v) = %q, %d", r, s, e)
			}
			return
		}
		if got, e := Parse(s); e != api.OK || !sameRevision(got, r) {
			t.Fatalf("Parse(%q) = %v, %d, not %v", s, got, e, r)
		}
	})
	for _, e := range []api.Errno{api.OK, api.ErrKind, api.ErrName, api.ErrArg, api.ErrDay, api.ErrSize} {
		if count[e] < 100 {
			t.Error(count)
		}
	}
}

// parseFails fails if Parse does not return this error.
func parseFails(t *testing.T, s string, want api.Errno) {
	t.Helper()
	if r, e := Parse(s); e != want || !sameRevision(r, api.Revision{}) {
		t.Errorf("Parse(%q) = %v, %d, not %d", s, r, e, want)
	}
}

func TestErrorsOfParse(t *testing.T) {
	const (
		head = "BA 117 2026-01-04/2026-01-07/1237"
		legs = " LHR JFK 500 700 777"
		huge = "9223372036854775808"
	)
	for _, c := range []struct {
		s    string
		want api.Errno
	}{
		// No word, and no word for a kind.
		{"", api.ErrForm}, {" ", api.ErrForm}, {`""`, api.ErrForm}, {`"" ` + head, api.ErrForm}, {"move " + head, api.ErrForm}, {"New " + head + legs, api.ErrForm}, {"CANCEL " + head, api.ErrForm}, {"cancels " + head, api.ErrForm}, {"cance " + head, api.ErrForm}, {head, api.ErrForm}, {"1 " + head, api.ErrForm}, {`"\x00" ` + head, api.ErrForm},
		// Not one of the lines that text.Words reads.
		{" cancel " + head, api.ErrForm}, {"cancel " + head + " ", api.ErrForm}, {"cancel  " + head, api.ErrForm}, {`"cancel" ` + head, api.ErrForm}, {`cancel "BA" 117 2026-01-04/2026-01-07/1237`, api.ErrForm}, {`cancel BA "117" 2026-01-04/2026-01-07/1237`, api.ErrForm}, {"cancel\t" + head, api.ErrForm}, {"cancel " + head + "\n", api.ErrForm}, {`cancel BA 117 "`, api.ErrForm}, {"équip " + head, api.ErrForm},
		// Too few and too many words.
		{"cancel", api.ErrForm}, {"cancel BA", api.ErrForm}, {"cancel BA 117", api.ErrForm}, {"cancel " + head + " 5", api.ErrForm}, {"cancel " + head + ` ""`, api.ErrForm}, {"cancel " + head + legs, api.ErrForm}, {"time", api.ErrForm}, {"time " + head, api.ErrForm}, {"time " + head + " 5 5", api.ErrForm}, {"equip", api.ErrForm}, {"equip " + head, api.ErrForm}, {"equip " + head + " 320 320", api.ErrForm}, {"time " + head + legs, api.ErrForm},
		{"new", api.ErrForm}, {"replace", api.ErrForm}, {"new " + head, api.ErrForm}, {"replace " + head, api.ErrForm}, {"new " + head + " LHR JFK 500 700", api.ErrForm}, {"new " + head + legs + " LHR", api.ErrForm}, {"replace " + head + legs + " 5", api.ErrForm}, {"new " + head + " 5", api.ErrForm}, {"new new " + head + legs, api.ErrForm},
		// Numbers.
		{"cancel BA 0117 2026-01-04/2026-01-07/1237", api.ErrForm}, {"cancel BA x 2026-01-04/2026-01-07/1237", api.ErrForm}, {"cancel BA " + huge + " 2026-01-04/2026-01-07/1237", api.ErrSize}, {"cancel BA 0 2026-01-04/2026-01-07/1237", api.ErrArg}, {"cancel BA 10000 2026-01-04/2026-01-07/1237", api.ErrArg}, {"cancel BA -1 2026-01-04/2026-01-07/1237", api.ErrArg}, {"cancel BA +1 2026-01-04/2026-01-07/1237", api.ErrForm}, {"cancel BA - 2026-01-04/2026-01-07/1237", api.ErrForm},
		{"new BA 0117 2026-01-04/2026-01-07/1237" + legs, api.ErrForm}, {"new BA " + huge + " 2026-01-04/2026-01-07/1237" + legs, api.ErrSize}, {"new BA 0 2026-01-04/2026-01-07/1237" + legs, api.ErrArg},
		// Periods.
		{"cancel BA 117 2026-01-04", api.ErrForm}, {"cancel BA 117 2026-01-04/2026-01-07/", api.ErrForm}, {"cancel BA 117 2026-01-04/2026-01-07/21", api.ErrForm}, {"cancel BA 117 2026-02-30/2026-03-07/1", api.ErrDay}, {"cancel BA 117 2026-01-07/2026-01-04/1", api.ErrDay}, {"cancel BA 117 2026-01-01/2029-01-01/1", api.ErrSize}, {"new BA 117 2026-01-07/2026-01-04/1" + legs, api.ErrDay},
		// Minutes.
		{"time " + head + " 05", api.ErrForm}, {"time " + head + " +5", api.ErrForm}, {"time " + head + " -0", api.ErrForm}, {"time " + head + " x", api.ErrForm}, {"time " + head + ` ""`, api.ErrForm}, {"time " + head + " " + huge, api.ErrSize}, {"time " + head + " -9223372036854775809", api.ErrSize}, {"time " + head + " 320A", api.ErrForm},
		// Equipment.
		{"equip " + head + " 32", api.ErrName}, {"equip " + head + " 3200", api.ErrName}, {"equip " + head + " a20", api.ErrName}, {"equip " + head + ` ""`, api.ErrName}, {"equip " + head + ` "3 0"`, api.ErrName}, {"equip " + head + " -10", api.ErrName},
		// Carriers.
		{"cancel ba 117 2026-01-04/2026-01-07/1237", api.ErrName}, {"cancel 99 117 2026-01-04/2026-01-07/1237", api.ErrName}, {`cancel "" 117 2026-01-04/2026-01-07/1237`, api.ErrName}, {`cancel "B A" 117 2026-01-04/2026-01-07/1237`, api.ErrName}, {"new BAW 117 2026-01-04/2026-01-07/1237" + legs, api.ErrName}, {`replace "" 117 2026-01-04/2026-01-07/1237` + legs, api.ErrName},
		// Legs.
		{"new " + head + " LHR JFK 0500 700 777", api.ErrForm}, {"new " + head + " LHR JFK 500 " + huge + " 777", api.ErrSize}, {"new " + head + " LHR JFK 500 5760 777", api.ErrArg}, {"replace " + head + " LHR jfk 500 700 777", api.ErrName}, {"replace " + head + " LHR JFK 500 700 77", api.ErrName}, {"replace " + head + ` LHR JFK 500 700 ""`, api.ErrName}, {"new " + head + strings.Repeat(legs, 7), api.ErrSize},
		// Two errors at once, in their order: the words, the kind, their number, the flight number, the period, the minutes, and then those of Print.
		{"move BA x", api.ErrForm}, {"move BA  " + huge, api.ErrForm}, {"cancel BA " + huge, api.ErrForm}, {"time BA " + huge + " 2026-01-07/2026-01-04/1", api.ErrForm}, {"equip BA " + huge + " 2026-01-07/2026-01-04/1 x x", api.ErrForm}, {"cancel BA " + huge + " 2026-01-07/2026-01-04/1", api.ErrSize}, {"cancel ba " + huge + " 2026-01-07", api.ErrSize}, {"cancel BA 0 2026-01-07/2026-01-04/1", api.ErrDay}, {"cancel ba 0 2026-01-07/2026-01-04/1", api.ErrDay},
		{"cancel ba 0 2026-01-04/2026-01-07/1", api.ErrName}, {"equip ba 0 2026-01-04/2026-01-07/1 32", api.ErrName}, {"equip BA 0 2026-01-04/2026-01-07/1 32", api.ErrArg}, {"time BA 0 2026-01-04/2026-01-07/1 05", api.ErrForm}, {"time ba 0 2026-01-04/2026-01-07/1 " + huge, api.ErrSize}, {"time BA 0 2026-01-07/2026-01-04/1 05", api.ErrDay}, {"time BA x 2026-01-07/2026-01-04/1 " + huge, api.ErrForm}, {"time BA " + huge + " 2026-01-07/2026-01-04/1 x", api.ErrSize},
		{"new ba " + huge + " x" + legs, api.ErrSize}, {"new ba 0 2026-01-07/2026-01-04/1 LHR JFK x 700 777", api.ErrDay}, {"new ba 0 2026-01-04/2026-01-07/1 LHR JFK " + huge + " x 777", api.ErrSize}, {"new ba 0 2026-01-04/2026-01-07/1 LHR JFK x " + huge + " 777", api.ErrForm}, {"new ba 0 2026-01-04/2026-01-07/1 LHR JFK 1 2 x", api.ErrName}, {"new BA 0 2026-01-04/2026-01-07/1 LHR JFK 1 2 x", api.ErrArg},
	} {
		parseFails(t, c.s, c.want)
	}
}

// parseError returns the error of Parse for a line of words and quoted texts, by the definition.
func parseError(words []string) api.Errno {
	whole := words[0] == "new" || words[0] == "replace"
	count := map[string]int{"cancel": 4, "time": 5, "equip": 5}[words[0]]
	switch {
	case whole:
		_, e := flight.Parse(text.Join(words[1:]))
		return e
	case count == 0 || len(words) != count:
		return api.ErrForm
	}
	number, e := text.Number(words[2])
	if e != api.OK {
		return e
	}
	p, e := period.Parse(words[3])
	if e != api.OK {
		return e
	}
	r := api.Revision{Kind: api.VCancel, Carrier: words[1], Number: number, Period: p}
	switch words[0] {
	case "time":
		r.Kind = api.VTime
		if r.Minutes, e = text.Number(words[4]); e != api.OK {
			return e
		}
	case "equip":
		r.Kind, r.Equip = api.VEquip, words[4]
	}
	return printError(r)
}

func TestParseIsAsDefined(t *testing.T) {
	count := make(map[api.Errno]int)
	for _, kind := range []string{"new", "cancel", "time", "equip", "replace", "move", "", "NEW", "kind"} {
		for _, carrier := range []string{"BA", "ba", "", "B A"} {
			for _, number := range []string{"117", "0", "0117", "10000", "99999999999999999999"} {
				for _, p := range []string{"2026-01-04/2026-01-07/1237", "2026-01-04/2026-01-07", "2026-01-07/2026-01-04/1", "2026-01-01/2029-01-01/1", ""} {
					for _, rest := range [][]string{nil, {"10"}, {"-10"}, {"010"}, {"320"}, {"99999999999999999999"}, {"a20"}, {""}, {"10", "10"}, {"320", ""}, {"LHR", "JFK", "500", "700", "777"}, {"LHR", "JFK", "500", "700", "77"}, {"LHR", "JFK", "0500", "700", "777"}, {"LHR", "JFK", "500", "5760", "777"}} {
						words := append([]string{kind, carrier, number, p}, rest...)
						s := text.Join(words)
						r, e := Parse(s)
						if want := parseError(words); e != want {
							t.Fatalf("Parse(%q) = %v, %d, not %d", s, r, e, want)
						}
						count[e]++
						if e != api.OK {
							parseFails(t, s, e)
						} else if again, e := Print(r); e != api.OK || again != s {
							t.Fatalf("Print(%v) = %q, %d, not %q", r, again, e, s)
						}
					}
				}
			}
		}
	}
	for _, e := range []api.Errno{api.OK, api.ErrForm, api.ErrSize, api.ErrDay, api.ErrArg, api.ErrName} {
		if count[e] < 8 {
			t.Error(count)
		}
	}
}

// accepted fails if Parse accepts a text that Print does not write for the result.
func accepted(t *testing.T, s string) bool {
	t.Helper()
	r, e := Parse(s)
	if e != api.OK {
		if !sameRevision(r, api.Revision{}) {
			t.Errorf("Parse(%q) = %v, %d", s, r, e)
		}
		return false
	}
	if again, e := Print(r); e != api.OK || again != s {
		t.Errorf("Print(%v) = %q, %d, not %q", r, again, e, s)
	}
	return true
}

func TestParseOfChangedBytes(t *testing.T) {
	n := 0
	for s := range lines() {
		for i := range len(s) + 1 {
			for b := range 256 {
				if accepted(t, s[:i]+string([]byte{byte(b)})+s[i:]) {
					n++
				}
				if i < len(s) && accepted(t, s[:i]+string([]byte{byte(b)})+s[i+1:]) {
					n++
				}
			}
			if i < len(s) && accepted(t, s[:i]+s[i+1:]) {
				n++
			}
		}
	}
	if n < 1000 {
		t.Errorf("%d texts are accepted", n)
	}
}

func TestParseOfChangedWords(t *testing.T) {
	for s := range lines() {
		words := strings.Split(s, " ")
		for i := range words {
			for k := i; k <= len(words); k++ {
				accepted(t, strings.Join(slices.Concat(words[:i], words[k:]), " "))
				accepted(t, strings.Join(slices.Concat(words[:k], words[i:]), " "))
			}
			quoted := slices.Clone(words)
			quoted[i] = strconv.Quote(quoted[i])
			parseFails(t, strings.Join(quoted, " "), api.ErrForm)
			quoted[i] = words[i] + "\""
			parseFails(t, strings.Join(quoted, " "), api.ErrForm)
			quoted[i] = words[i] + " "
			parseFails(t, strings.Join(quoted, " "), api.ErrForm)
		}
	}
}

// Rules R1, R2, R4 and R6

// oddTimetables returns lists that are not right, besides right ones.
func oddTimetables() [][]api.Flight {
	odd := api.Leg{From: "LHR", To: "LHR", Dep: math.MinInt, Arr: math.MaxInt}
	week := days(newYear, newYear+6)
	all := [][]api.Flight{nil, kit(), make([]api.Flight, 3), {long(week), ba(week), ba(days(newYear+2, newYear+9)), long(days(newYear+7, newYear+9))}, {{Carrier: "BA", Number: 117, Period: week, Legs: slices.Repeat([]api.Leg{odd}, 20)}}}
	for _, p := range append(badPeriods(), week) {
		all = append(all, timetable(api.Flight{Period: p}, ba(p), ba(one(newYear)), api.Flight{Carrier: strings.Repeat("BA", 1000), Number: math.MinInt, Period: p, Legs: []api.Leg{odd, {}, odd}}, long(p)))
	}
	return all
}

// oddPlaces returns places that are not right, besides right ones.
func oddPlaces() []api.Places {
	zone := api.Zone{Offset: math.MaxInt, Shifts: []api.Shift{{At: math.MaxInt, Offset: math.MaxInt}, {At: math.MinInt, Offset: math.MinInt}, {At: newYear * 1440, Offset: 841}}}
	return []api.Places{{}, world(), {Airports: make([]api.Airport, 3), Distances: make([]api.Distance, 3)}, {Airports: []api.Airport{{Code: "LHR", Zone: zone}, {Code: "JFK"}, {Code: "JFK", Zone: zone}, {Zone: zone}}}}
}

// oddRevisions returns revisions of which most are not right.
func oddRevisions() []api.Revision {
	week := days(newYear+2, newYear+8)
	all := []api.Revision{{}, {Period: week}, {Kind: api.VNew, Period: week}, {Kind: api.VNew, Period: week, Legs: make([]api.Leg, 9)}, {Kind: api.VReplace, Carrier: "BA", Number: 117, Period: week, Legs: slices.Repeat(legs(), 99)}}
	for kind := range 7 {
		all = append(all, change(kind, week), to("XX", 9, change(kind, week)), api.Revision{Kind: kind, Carrier: "BA", Number: 117, Period: week, Minutes: math.MinInt, Equip: strings.Repeat("x", 999), Legs: legs()})
	}
	for i, p := range badPeriods() {
		all = append(all, change(1+i%5, p))
	}
	for _, kind := range oddKinds() {
		all = append(all, change(kind, week))
	}
	return all
}

// results calls all functions, and returns their results.
func results(p api.Places, l []api.Flight, rs []api.Revision, segs []api.Seg) []any {
	next, e := Apply(p, l, rs[0])
	last, n, alle := All(p, l, rs)
	gone, late := Touched(p, l, segs)
	s, printe := Print(rs[0])
	r, parsee := Parse(s)
	return []any{next, e, last, n, alle, Pack(l), gone, late, s, printe, r, parsee}
}

func TestNothingPanicsAndResultsAreTheSameAgain(t *testing.T) {
	segs := []api.Seg{{}, segment("BA", 117, newYear, "LHR", "JFK", 500, 1000), {Carrier: "BA", Number: 117, Day: newYear, From: "LHR", To: "LHR", Dep: math.MinInt, Arr: math.MaxInt}, segment("BA", 117, math.MinInt, "LHR", "JFK", 500, 1000)}
	for _, p := range oddPlaces() {
		for _, l := range oddTimetables() {
			rs := oddRevisions()
			for i, r := range rs {
				list := []api.Revision{r, rs[(i+7)%len(rs)], r}
				a, b := results(p, l, list, segs), results(p, l, list, segs)
				if !reflect.DeepEqual(a, b) {
					t.Fatalf("%v of %v: %v and %v", r, l, a, b)
				}
				if a[1] != api.OK && len(a[0].([]api.Flight)) > 0 || a[4] != api.OK && len(a[2].([]api.Flight)) > 0 || a[9] != api.OK && a[8] != "" || a[11] != api.OK && !sameRevision(a[10].(api.Revision), api.Revision{}) {
					t.Errorf("%v of %v: a result with an error: %v", r, l, a)
				}
			}
		}
	}
}

// spare returns a copy of a list that has memory behind its end, which is a copy of its elements.
func spare[T any](l []T) []T { return append(slices.Clone(l), l...)[:len(l)] }

// arguments returns copies of arguments with memory behind the ends of their lists.
func arguments(p api.Places, l []api.Flight, rs []api.Revision, segs []api.Seg) (api.Places, []api.Flight, []api.Revision, []api.Seg) {
	p.Airports, p.Distances = spare(p.Airports), spare(p.Distances)
	for i := range p.Airports {
		p.Airports[i].Zone.Shifts = spare(p.Airports[i].Zone.Shifts)
	}
	l, rs = spare(l), spare(rs)
	for i := range l {
		l[i].Legs = spare(l[i].Legs)
	}
	for i := range rs {
		rs[i].Legs = spare(rs[i].Legs)
	}
	return p, l, rs, spare(segs)
}

// memory returns a copy of all that can be reached from arguments, with the memory behind the ends of their lists.
func memory(p api.Places, l []api.Flight, rs []api.Revision, segs []api.Seg) []any {
	flights := slices.Clone(l[:cap(l)])
	for i := range flights {
		flights[i].Legs = slices.Clone(flights[i].Legs[:cap(flights[i].Legs)])
	}
	changes := slices.Clone(rs[:cap(rs)])
	for i := range changes {
		changes[i].Legs = slices.Clone(changes[i].Legs[:cap(changes[i].Legs)])
	}
	airports := slices.Clone(p.Airports[:cap(p.Airports)])
	for i := range airports {
		airports[i].Zone.Shifts = slices.Clone(airports[i].Zone.Shifts[:cap(airports[i].Zone.Shifts)])
	}
	return []any{airports, slices.Clone(p.Distances[:cap(p.Distances)]), flights, changes, slices.Clone(segs[:cap(segs)])}
}

func TestArgumentsAreNotModified(t *testing.T) {
	all := append(rightTimetables()[:60], oddTimetables()...)
	for i, list := range all {
		rs := append(oddRevisions(), changes()...)
		for k := range rs {
			if (i+k)%7 > 0 {
				continue
			}
			p, l, three, segs := arguments(world(), list, []api.Revision{rs[k], rs[(k+5)%len(rs)], rs[k]}, []api.Seg{{}, segment("BA", 117, newYear, "LHR", "JFK", 500, 1000)})
			before := memory(p, l, three, segs)
			results(p, l, three, segs)
			if after := memory(p, l, three, segs); !reflect.DeepEqual(before, after) {
				t.Fatalf("an argument was modified: %v, %v", before, after)
			}
		}
	}
}

// ruin overwrites a timetable with its legs.
func ruin(l []api.Flight) {
	for i := range l {
		clear(l[i].Legs[:cap(l[i].Legs)])
	}
	clear(l[:cap(l)])
}

func TestResultsAreNewMemory(t *testing.T) {
	list := timetable(long(days(newYear, newYear+6)), ba(days(newYear+7, newYear+13)), called("AF", 117, ba(days(newYear, newYear+6))))
	for kind := api.VNew; kind <= api.VReplace; kind++ {
		r := change(kind, days(newYear+3, newYear+8))
		if kind == api.VNew {
			r.Number = 118
		}
		p, l, rs, segs := arguments(world(), list, []api.Revision{r, to("AF", 117, change(api.VReplace, one(newYear+2)))}, []api.Seg{{}, segment("BA", 117, newYear, "LHR", "JFK", 500, 1001)})
		before, first := memory(p, l, rs, segs), results(p, l, rs, segs)
		next, _ := Apply(p, l, r)
		ruin(next)
		next, _, e := All(p, l, rs)
		if e != api.OK {
			t.Error(e)
		}
		ruin(next)
		next, _, _ = All(p, l, nil)
		ruin(next)
		ruin(Pack(l))
		gone, late := Touched(p, l, segs)
		clear(gone)
		clear(late)
		if !reflect.DeepEqual(before, memory(p, l, rs, segs)) || !reflect.DeepEqual(first, results(p, l, rs, segs)) {
			t.Errorf("kind %d: changing a result changed an argument or another result", kind)
		}
	}
}

func TestFlightsOfOneResultShareNoMemory(t *testing.T) {
	l := timetable(long(days(newYear, newYear+6)), called("AF", 117, long(days(newYear, newYear+6))))
	shared := l[0].Legs
	l[1].Legs = shared
	for _, kind := range kinds() {
		r := change(kind, some(newYear+2, newYear+4, 64))
		one, _ := Apply(world(), l, r)
		all, _, _ := All(world(), l, []api.Revision{r})
		for _, next := range [][]api.Flight{one, all, Pack(l)} {
			for i := range next {
				before := make([][]api.Leg, len(next))
				for k := range next {
					before[k] = slices.Clone(next[k].Legs)
				}
				next[i].Legs[0] = api.Leg{From: "XXX", Dep: i}
				for k := range next {
					if k != i && !slices.Equal(next[k].Legs, before[k]) {
						t.Fatalf("flights %d and %d of %v share their legs", i, k, next)
					}
				}
			}
		}
	}
	if !slices.Equal(shared, long(one(0)).Legs) {
		t.Error("the legs of the argument were changed")
	}
}

func TestThisTest(t *testing.T) {
	p := world()
	if x := places.Check(p); len(x) > 0 {
		t.Errorf("the places are not right: %v", x)
	}
	for _, f := range kit() {
		if x := flight.Check(p, f); len(x) > 0 {
			t.Errorf("%v is not right: %v", f, x)
		}
	}
	if n := len(rightTimetables()); n < 300 {
		t.Errorf("there are %d right timetables", n)
	}
}
