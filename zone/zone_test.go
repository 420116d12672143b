package zone

import (
	"math"
	"slices"
	"testing"

	"airline/api"
	"airline/calendar"
)

const (
	lastTime = api.MaxTime - 1
	// far is the greatest minute for which the results are specified.
	far = 1 << 40
)

// zoneOf returns a zone with these shifts, to write it shortly.
func zoneOf(offset int, shifts ...api.Shift) api.Zone {
	return api.Zone{Offset: offset, Shifts: shifts}
}

// shift returns a shift, to write it shortly.
func shift(at, offset int) api.Shift { return api.Shift{At: at, Offset: offset} }

// row returns shifts at equal distances, which change among offsets.
func row(count, at, distance int, offsets ...int) []api.Shift {
	l := make([]api.Shift, count)
	for i := range l {
		l[i] = shift(at+i*distance, offsets[i%len(offsets)])
	}
	return l
}

// outside are integers that are neither offsets nor times. Some are small in 32 bits.
func outside() []int {
	return []int{
		-841, -842, -1440, -2880, -lastTime, -far, -1 << 31, -1 << 32, -1<<32 + 60, -1 << 62, math.MinInt, math.MinInt + 1,
		api.MaxTime, api.MaxTime + 1, far, 1<<31 - 1, 1 << 31, 1 << 32, 1<<32 + 60, 1 << 62, math.MaxInt - 1, math.MaxInt,
	}
}

// edgeOffsets are the least and the greatest offsets, and some in between.
func edgeOffsets() []int { return []int{-840, -60, 0, 1, 840} }

// zones calls f with valid zones: with 0, 1, 2 and 256 shifts at the edges of the time and in between, as close as allowed and further apart, with changes in both directions, the greatest ones and none.
func zones(f func(z api.Zone)) {
	for _, a := range edgeOffsets() {
		f(zoneOf(a))
		for _, b := range edgeOffsets() {
			for _, at := range []int{0, 1, 839, 840, 10000, lastTime - 1, lastTime} {
				f(zoneOf(a, shift(at, b)))
			}
			for _, c := range edgeOffsets() {
				for _, distance := range []int{2880, 2881, 4000} {
					for _, at := range []int{0, 10000, lastTime - distance} {
						f(zoneOf(a, shift(at, b), shift(at+distance, c)))
					}
				}
			}
		}
	}
	f(zoneOf(840, row(256, 0, 2880, -840, 840)...))
	f(zoneOf(-840, row(256, lastTime-255*2880, 2880, 840, 840, -840, -840)...))
	f(zoneOf(60, row(256, 100, 205000, 120, 60)...))
	f(zoneOf(-300, row(255, 1, 2881, -300)...))
	f(zoneOf(0, row(20, 5000, 2880, 840, 0, -840, 0, 1, -1)...))
}

// spans returns all minutes, from the first to the last one of each span, where the local time may be unlike the one before, and the edges of what is specified.
func spans(z api.Zone) [][2]int {
	l := [][2]int{{-far, 5 - far}, {-5, 5}, {lastTime - 5, api.MaxTime + 5}, {far - 5, far}}
	for _, s := range z.Shifts {
		// The local minutes of a shift are at most 840 away from it.
		l = append(l, [2]int{s.At - 850, s.At + 850})
	}
	slices.SortFunc(l, func(a, b [2]int) int { return a[0] - b[0] })
	joined := l[:1]
	for _, next := range l[1:] {
		if now := &joined[len(joined)-1]; next[0] <= now[1]+1 {
			now[1] = max(now[1], next[1])
		} else {
			joined = append(joined, next)
		}
	}
	return joined
}

// minutes calls f with all minutes of the spans of all zones, in ascending order for each zone.
func minutes(f func(z api.Zone, minute int)) {
	zones(func(z api.Zone) {
		for _, s := range spans(z) {
			for minute := s[0]; minute <= s[1]; minute++ {
				f(z, minute)
			}
		}
	})
}

// offsetAt returns the offset at a minute UTC, by the definition.
func offsetAt(z api.Zone, utc int) int {
	offset := z.Offset
	for _, s := range z.Shifts {
		if s.At <= utc {
			offset = s.Offset
		}
	}
	return offset
}

// around returns a copy of a zone without the shifts after the last minute, and with the offset at the first one instead of the shifts before. Between both, the local time is the same.
func around(z api.Zone, first, last int) api.Zone {
	n := zoneOf(offsetAt(z, first))
	for _, s := range z.Shifts {
		if first < s.At && s.At <= last {
			n.Shifts = append(n.Shifts, s)
		}
	}
	return n
}

// table is what the definitions say of the local minutes from a first one on.
type table struct {
	// utc are the least minutes UTC that are not earlier than the local minutes, and count says how often these occur.
	utc, count []int
}

// tableOf returns the table of the local minutes from first to last.
func tableOf(z api.Zone, first, last int) table {
	n := last - first + 1
	t := table{make([]int, n), make([]int, n)}
	// As no offset is beyond 840, no other minutes UTC can be those of these local minutes.
	from, to := first-840, last+840
	z = around(z, from, to)
	filled := 0
	for utc := from; utc <= to; utc++ {
		local := utc + offsetAt(z, utc)
		for ; filled < n && first+filled <= local; filled++ {
			t.utc[filled] = utc
		}
		if first <= local && local <= last {
			t.count[local-first]++
		}
	}
	return t
}

// P5.1

func TestCheck(t *testing.T) {
	zones(func(z api.Zone) {
		if e := Check(z); e != api.OK {
			t.Errorf("Check of %d and %d shifts = %d", z.Offset, len(z.Shifts), e)
		}
	})
	for _, c := range []struct {
		z    api.Zone
		want api.Errno
	}{
		{api.Zone{}, api.OK}, {zoneOf(0, []api.Shift{}...), api.OK}, {zoneOf(60, shift(10000, 120)), api.OK}, {zoneOf(0, shift(1000, 60), shift(3000, 0)), api.ErrTime},
		// The offsets.
		{zoneOf(-841), api.ErrArg}, {zoneOf(-840), api.OK}, {zoneOf(840), api.OK}, {zoneOf(841), api.ErrArg},
		{zoneOf(0, shift(5, -841)), api.ErrArg}, {zoneOf(0, shift(5, -840)), api.OK}, {zoneOf(0, shift(5, 840)), api.OK}, {zoneOf(0, shift(5, 841)), api.ErrArg},
		{zoneOf(0, shift(5, 0), shift(9000, -841)), api.ErrArg}, {zoneOf(0, shift(5, 0), shift(9000, 841)), api.ErrArg}, {zoneOf(0, shift(5, 841), shift(9000, 0)), api.ErrArg},
		// The moments of shifts.
		{zoneOf(0, shift(-1, 60)), api.ErrTime}, {zoneOf(0, shift(0, 60)), api.OK}, {zoneOf(0, shift(lastTime, 60)), api.OK}, {zoneOf(0, shift(api.MaxTime, 60)), api.ErrTime},
		{zoneOf(0, shift(-1440, 60)), api.ErrTime}, {zoneOf(0, shift(-2880, 60), shift(0, 0)), api.ErrTime}, {zoneOf(0, shift(lastTime-2879, 60), shift(api.MaxTime, 0)), api.ErrTime},
		{zoneOf(0, shift(0, 60), shift(lastTime, 0)), api.OK}, {zoneOf(0, shift(0, 60), shift(api.MaxTime, 0)), api.ErrTime},
		// The distances of shifts.
		{zoneOf(0, shift(0, 60), shift(2879, 0)), api.ErrTime}, {zoneOf(0, shift(0, 60), shift(2880, 0)), api.OK}, {zoneOf(0, shift(0, 60), shift(0, 0)), api.ErrTime},
		{zoneOf(0, shift(7, 60), shift(2886, 0)), api.ErrTime}, {zoneOf(0, shift(7, 60), shift(2887, 0)), api.OK}, {zoneOf(0, shift(9000, 60), shift(5000, 0)), api.ErrTime},
		{zoneOf(0, shift(9000, 60), shift(-1, 0)), api.ErrTime}, {zoneOf(0, shift(0, 0), shift(1440, 0)), api.ErrTime}, {zoneOf(0, shift(0, 60), shift(5000, 0), shift(7879, 60)), api.ErrTime},
		{zoneOf(0, shift(0, 60), shift(5000, 0), shift(7880, 60)), api.OK}, {zoneOf(0, shift(0, 60), shift(5000, 0), shift(2880, 60)), api.ErrTime},
		// The numbers of shifts.
		{zoneOf(0, row(255, 0, 2880, 60, 0)...), api.OK}, {zoneOf(0, row(256, 0, 2880, 60, 0)...), api.OK}, {zoneOf(0, row(257, 0, 2880, 60, 0)...), api.ErrSize},
		{zoneOf(0, row(100000, 0, 2880, 60, 0)...), api.ErrSize},
		// The last of many shifts.
		{zoneOf(0, row(256, lastTime-255*2880, 2880, 60, 0)...), api.OK}, {zoneOf(0, row(256, api.MaxTime-255*2880, 2880, 60, 0)...), api.ErrTime},
		{zoneOf(0, append(row(255, 0, 2880, 60, 0), shift(254*2880+2879, 60))...), api.ErrTime}, {zoneOf(0, append(row(255, 0, 2880, 60, 0), shift(lastTime, 841))...), api.ErrArg},
	} {
		if e := Check(c.z); e != c.want {
			t.Errorf("Check(%v) = %d, not %d", c.z, e, c.want)
		}
	}
}

func TestCheckReturnsTheFirstError(t *testing.T) {
	for _, c := range []struct {
		z    api.Zone
		want api.Errno
	}{
		// The number of shifts, before all others.
		{zoneOf(841, row(257, 0, 2880, 0)...), api.ErrSize}, {zoneOf(0, row(257, -1, 2880, 0)...), api.ErrSize}, {zoneOf(0, row(257, 0, 2880, 841)...), api.ErrSize},
		{zoneOf(0, row(257, 0, 2879, 0)...), api.ErrSize}, {zoneOf(-841, row(257, -1, 0, 841)...), api.ErrSize},
		// The offset of the zone, before the shifts.
		{zoneOf(841, shift(-1, 0)), api.ErrArg}, {zoneOf(-841, shift(api.MaxTime, 0)), api.ErrArg}, {zoneOf(841, shift(0, 0), shift(2879, 0)), api.ErrArg},
		{zoneOf(841, shift(0, 841)), api.ErrArg}, {zoneOf(-841, row(256, 0, 2879, 0)...), api.ErrArg},
		// The moment of a shift, before its offset.
		{zoneOf(0, shift(-1, 841)), api.ErrTime}, {zoneOf(0, shift(api.MaxTime, -841)), api.ErrTime}, {zoneOf(0, shift(5, 0), shift(2884, 841)), api.ErrTime},
		// A shift, before those after it.
		{zoneOf(0, shift(5, 841), shift(6, 0)), api.ErrArg}, {zoneOf(0, shift(5, -841), shift(-1, 0)), api.ErrArg}, {zoneOf(0, shift(5, 841), shift(api.MaxTime, 0)), api.ErrArg},
		{zoneOf(0, shift(-1, 0), shift(9000, 841)), api.ErrTime}, {zoneOf(0, shift(api.MaxTime, 0), shift(5, 841)), api.ErrTime},
		{zoneOf(0, shift(5, 0), shift(2884, 0), shift(9000, 841)), api.ErrTime}, {zoneOf(0, shift(5, 0), shift(2885, 841), shift(2886, 0)), api.ErrArg},
	} {
		if e := Check(c.z); e != c.want {
			t.Errorf("Check(%v) = %d, not %d", c.z, e, c.want)
		}
	}
}

func TestCheckRefusesAllOtherIntegers(t *testing.T) {
	for _, n := range outside() {
		for _, c := range []struct {
			z    api.Zone
			want api.Errno
		}{
			{zoneOf(n), api.ErrArg}, {zoneOf(n, shift(5, 0)), api.ErrArg}, {zoneOf(n, shift(n, n)), api.ErrArg}, {zoneOf(0, shift(n, n)), api.ErrTime},
			{zoneOf(0, shift(5, n)), api.ErrArg}, {zoneOf(0, shift(5, 0), shift(2885, n), shift(n, 0)), api.ErrArg},
			{zoneOf(0, shift(n, 0)), api.ErrTime}, {zoneOf(0, shift(0, 0), shift(n, 0)), api.ErrTime}, {zoneOf(0, shift(lastTime, 0), shift(n, 0)), api.ErrTime},
			{zoneOf(0, shift(n, 0), shift(n+2880, 0)), api.ErrTime}, {zoneOf(0, shift(n, 0), shift(5, n)), api.ErrTime},
		} {
			if e := Check(c.z); e != c.want {
				t.Errorf("Check(%v) = %d, not %d", c.z, e, c.want)
			}
		}
	}
}

func TestCheckOfEveryOffsetAndDistance(t *testing.T) {
	check := func(z api.Zone, valid bool, otherwise api.Errno) {
		want := api.OK
		if !valid {
			want = otherwise
		}
		if e := Check(z); e != want {
			t.Errorf("Check(%v) = %d, not %d", z, e, want)
		}
	}
	for n := -3000; n <= 3000; n++ {
		isOffset := -840 <= n && n <= 840
		check(zoneOf(n), isOffset, api.ErrArg)
		check(zoneOf(0, shift(0, n)), isOffset, api.ErrArg)
		check(zoneOf(0, row(256, 0, 2880, n)...), isOffset, api.ErrArg)
		check(zoneOf(0, shift(n, 0)), n >= 0, api.ErrTime)
		check(zoneOf(0, shift(lastTime+n, 0)), n <= 0, api.ErrTime)
		check(zoneOf(0, shift(10000, 0), shift(10000+n, 0)), n >= 2880, api.ErrTime)
		check(zoneOf(0, shift(0, 0), shift(9000, 60), shift(9000+n, 0)), n >= 2880, api.ErrTime)
	}
}

// example is a minute UTC and its local minute.
type example struct{ utc, local int }

func TestOffsetAndLocal(t *testing.T) {
	for _, c := range []struct {
		z        api.Zone
		examples []example
	}{
		{zoneOf(60, shift(10000, 120)), []example{{9999, 10059}, {10000, 10120}, {10001, 10121}, {0, 60}, {-1, 59}, {-far, 60 - far}, {lastTime, lastTime + 120}, {api.MaxTime, api.MaxTime + 120}, {far, far + 120}}},
		{zoneOf(60, shift(10000, 0)), []example{{9940, 10000}, {9999, 10059}, {10000, 10000}, {10001, 10001}, {10060, 10060}}},
		{zoneOf(-300), []example{{0, -300}, {-1, -301}, {300, 0}, {lastTime, lastTime - 300}, {far, far - 300}, {-far, -far - 300}}},
		{zoneOf(840, shift(0, -840), shift(2880, 1)), []example{{-1, 839}, {0, -840}, {1, -839}, {2879, 2039}, {2880, 2881}, {2881, 2882}, {api.MaxTime, api.MaxTime + 1}}},
		{zoneOf(1, shift(lastTime, 840)), []example{{lastTime - 1, lastTime}, {lastTime, lastTime + 840}, {api.MaxTime, api.MaxTime + 840}, {0, 1}}},
		{zoneOf(60, shift(500, 60)), []example{{499, 559}, {500, 560}, {501, 561}}},
		{api.Zone{}, []example{{0, 0}, {-far, -far}, {far, far}}},
	} {
		for _, x := range c.examples {
			if n := Offset(c.z, x.utc); n != x.local-x.utc {
				t.Errorf("Offset(%v, %d) = %d, not %d", c.z, x.utc, n, x.local-x.utc)
			}
			if n := Local(c.z, x.utc); n != x.local {
				t.Errorf("Local(%v, %d) = %d, not %d", c.z, x.utc, n, x.local)
			}
		}
	}
}

func TestOffsetAndLocalByTheDefinition(t *testing.T) {
	minutes(func(z api.Zone, utc int) {
		want := offsetAt(z, utc)
		if n := Offset(z, utc); n != want {
			t.Fatalf("Offset(%v, %d) = %d, not %d", z, utc, n, want)
		}
		if n := Local(z, utc); n != utc+want {
			t.Fatalf("Local(%v, %d) = %d, not %d", z, utc, n, utc+want)
		}
	})
}

func TestLocalMinutes(t *testing.T) {
	summer, winter := zoneOf(60, shift(10000, 120)), zoneOf(60, shift(10000, 0))
	forward, back := zoneOf(-840, shift(5000, 840)), zoneOf(840, shift(5000, -840))
	for _, c := range []struct {
		z                 api.Zone
		local, utc, count int
	}{
		// One before the first skipped minute, the first one, one in between, the last one, and one beyond.
		{summer, 10059, 9999, 1}, {summer, 10060, 10000, 0}, {summer, 10100, 10000, 0}, {summer, 10119, 10000, 0}, {summer, 10120, 10000, 1}, {summer, 10121, 10001, 1},
		{forward, 4159, 4999, 1}, {forward, 4160, 5000, 0}, {forward, 5000, 5000, 0}, {forward, 5839, 5000, 0}, {forward, 5840, 5000, 1}, {forward, 5841, 5001, 1},
		// The same for minutes that occur twice.
		{winter, 9999, 9939, 1}, {winter, 10000, 9940, 2}, {winter, 10030, 9970, 2}, {winter, 10059, 9999, 2}, {winter, 10060, 10060, 1}, {winter, 10061, 10061, 1},
		{back, 4159, 3319, 1}, {back, 4160, 3320, 2}, {back, 5000, 4160, 2}, {back, 5839, 4999, 2}, {back, 5840, 6680, 1}, {back, 5841, 6681, 1},
		// A change by one minute, and by nothing.
		{zoneOf(0, shift(700, 1)), 699, 699, 1}, {zoneOf(0, shift(700, 1)), 700, 700, 0}, {zoneOf(0, shift(700, 1)), 701, 700, 1},
		{zoneOf(1, shift(700, 0)), 699, 698, 1}, {zoneOf(1, shift(700, 0)), 700, 699, 2}, {zoneOf(1, shift(700, 0)), 701, 701, 1},
		{zoneOf(60, shift(700, 60)), 759, 699, 1}, {zoneOf(60, shift(700, 60)), 760, 700, 1}, {zoneOf(60, shift(700, 60)), 761, 701, 1},
		// No change, and far away from all changes.
		{api.Zone{}, 0, 0, 1}, {api.Zone{}, -far, -far, 1}, {api.Zone{}, far, far, 1}, {zoneOf(-300), 0, 300, 1}, {zoneOf(-300), -301, -1, 1}, {zoneOf(840), -far, -far - 840, 1},
		{summer, 0, -60, 1}, {summer, -far, -far - 60, 1}, {summer, lastTime, lastTime - 120, 1}, {summer, api.MaxTime + 120, api.MaxTime, 1}, {summer, far, far - 120, 1},
		// Changes at the edges of the time.
		{zoneOf(0, shift(0, 60)), -1, -1, 1}, {zoneOf(0, shift(0, 60)), 0, 0, 0}, {zoneOf(0, shift(0, 60)), 59, 0, 0}, {zoneOf(0, shift(0, 60)), 60, 0, 1},
		{zoneOf(60, shift(0, 0)), -1, -61, 1}, {zoneOf(60, shift(0, 0)), 0, -60, 2}, {zoneOf(60, shift(0, 0)), 59, -1, 2}, {zoneOf(60, shift(0, 0)), 60, 60, 1},
		{zoneOf(0, shift(lastTime, 60)), lastTime, lastTime, 0}, {zoneOf(0, shift(lastTime, 60)), lastTime + 60, lastTime, 1}, {zoneOf(0, shift(lastTime, -60)), lastTime - 1, lastTime - 1, 2},
		// Changes one after another, as close as they can be: the second one ends before local minutes of the first one come again.
		{zoneOf(840, shift(0, -840), shift(2880, 840)), 839, -1, 2}, {zoneOf(840, shift(0, -840), shift(2880, 840)), 840, 1680, 1}, {zoneOf(840, shift(0, -840), shift(2880, 840)), 2040, 2880, 0},
		{zoneOf(-840, shift(0, 840), shift(2880, -840)), -841, -1, 1}, {zoneOf(-840, shift(0, 840), shift(2880, -840)), 839, 0, 0}, {zoneOf(-840, shift(0, 840), shift(2880, -840)), 2040, 1200, 2},
	} {
		if u := UTC(c.z, c.local); u != c.utc {
			t.Errorf("UTC(%v, %d) = %d, not %d", c.z, c.local, u, c.utc)
		}
		if Exists(c.z, c.local) != (c.count > 0) {
			t.Errorf("Exists(%v, %d) = %v", c.z, c.local, c.count == 0)
		}
		if Twice(c.z, c.local) != (c.count == 2) {
			t.Errorf("Twice(%v, %d) = %v", c.z, c.local, c.count != 2)
		}
	}
}

func TestLocalMinutesByTheDefinition(t *testing.T) {
	found := [3]int{}
	zones(func(z api.Zone) {
		for _, s := range spans(z) {
			want := tableOf(z, s[0], s[1])
			for i, count := range want.count {
				local := s[0] + i
				if u := UTC(z, local); u != want.utc[i] {
					t.Fatalf("UTC(%v, %d) = %d, not %d", z, local, u, want.utc[i])
				}
				if exists := Exists(z, local); exists != (count > 0) {
					t.Fatalf("Exists(%v, %d) = %v, but it occurs %d times", z, local, exists, count)
				}
				if twice := Twice(z, local); twice != (count == 2) {
					t.Fatalf("Twice(%v, %d) = %v, but it occurs %d times", z, local, twice, count)
				}
				found[count]++
			}
		}
	})
	if slices.Contains(found[:], 0) {
		t.Errorf("%v local minutes occur never, once and twice", found)
	}
}

// lastSunday returns the last Sunday of a month.
func lastSunday(year, month int) int {
	day, _ := calendar.Day(year, month, 31)
	for calendar.Weekday(day) != 6 {
		day--
	}
	return day
}

// london returns the zone of London with the rule of today for all years: it has summer time between the last Sundays of March and October.
func london() api.Zone {
	z := api.Zone{}
	for year := 2000; year < 2100; year++ {
		z.Shifts = append(z.Shifts, shift(lastSunday(year, 3)*api.DayMinutes+60, 60), shift(lastSunday(year, 10)*api.DayMinutes+60, 0))
	}
	return z
}

// at returns the minute of a date and a time of day.
func at(date, clock string) int {
	day, _ := calendar.Parse(date)
	minute, _ := calendar.Minute(clock)
	return day*api.DayMinutes + minute
}

func TestLondon(t *testing.T) {
	z := london()
	if e := Check(z); e != api.OK {
		t.Errorf("Check of London = %d", e)
	}
	for _, c := range []struct {
		date, clock   string
		utc, utcClock string
		exists, twice bool
	}{
		{"2026-01-01", "00:00", "2026-01-01", "00:00", true, false},
		{"2026-03-29", "00:59", "2026-03-29", "00:59", true, false},
		{"2026-03-29", "01:00", "2026-03-29", "01:00", false, false},
		{"2026-03-29", "01:59", "2026-03-29", "01:00", false, false},
		{"2026-03-29", "02:00", "2026-03-29", "01:00", true, false},
		{"2026-03-29", "22:00", "2026-03-29", "21:00", true, false},
		{"2026-07-01", "00:30", "2026-06-30", "23:30", true, false},
		{"2026-10-25", "00:59", "2026-10-24", "23:59", true, false},
		{"2026-10-25", "01:00", "2026-10-25", "00:00", true, true},
		{"2026-10-25", "01:59", "2026-10-25", "00:59", true, true},
		{"2026-10-25", "02:00", "2026-10-25", "02:00", true, false},
		{"2000-07-01", "12:00", "2000-07-01", "11:00", true, false},
		{"2099-12-31", "23:59", "2099-12-31", "23:59", true, false},
	} {
		local := at(c.date, c.clock)
		if u := UTC(z, local); u != at(c.utc, c.utcClock) {
			t.Errorf("UTC of %s %s = %d", c.date, c.clock, u)
		}
		if Exists(z, local) != c.exists || Twice(z, local) != c.twice {
			t.Errorf("%s %s: Exists %v, Twice %v", c.date, c.clock, !c.exists, !c.twice)
		}
	}
	// A flight on the day on which summer time begins takes as long as the offsets say: 180 minutes by the clocks, and the 300 between London and New York.
	newYork := zoneOf(-300, shift(at("2026-03-08", "07:00"), -240), shift(at("2026-11-01", "06:00"), -300))
	departs, arrives := UTC(z, at("2026-03-29", "22:00")), UTC(newYork, at("2026-03-30", "01:00"))
	if arrives-departs != 480 {
		t.Errorf("from London to New York: %d minutes", arrives-departs)
	}
}

func TestZonesAreNotModified(t *testing.T) {
	for _, z := range []api.Zone{london(), zoneOf(841, row(300, lastTime, -7, 841, -5)...)} {
		before := slices.Clone(z.Shifts)
		callAll(z, 10000)
		if !slices.Equal(z.Shifts, before) {
			t.Errorf("the shifts %v became %v", before, z.Shifts)
		}
	}
}

// callAll calls all functions with a zone and a minute.
func callAll(z api.Zone, minute int) {
	Check(z)
	Offset(z, minute)
	Local(z, minute)
	UTC(z, minute)
	Exists(z, minute)
	Twice(z, minute)
}

// TestNothingPanics fails if a function panics or does not end for a zone that is not valid.
func TestNothingPanics(t *testing.T) {
	numbers := append(outside(), -1, 0, 1, 840, 2880, lastTime)
	var l []api.Zone
	for _, a := range numbers {
		l = append(l, zoneOf(a), zoneOf(a, row(257, a, a, a)...), zoneOf(a, row(1000, lastTime, -1, a, 0)...))
		for _, b := range numbers {
			l = append(l, zoneOf(a, shift(b, a)), zoneOf(0, shift(a, b), shift(b, a)), zoneOf(b, shift(a, a), shift(a, b), shift(b, a)))
		}
	}
	for _, z := range l {
		for _, minute := range numbers {
			callAll(z, minute)
		}
	}
}

// P5.2

func TestLocalMinutesLeadBack(t *testing.T) {
	twice := 0
	minutes(func(z api.Zone, utc int) {
		local := Local(z, utc)
		back := UTC(z, local)
		if Local(z, back) != local {
			t.Fatalf("%v: the local minute of %d is %d, whose minute is %d, at which it is %d", z, utc, local, back, Local(z, back))
		}
		if back > utc || back < utc && !Twice(z, local) {
			t.Fatalf("%v: the local minute of %d is %d, whose minute is %d", z, utc, local, back)
		}
		if back < utc {
			twice++
		}
	})
	if twice == 0 {
		t.Error("no local minute occurs twice")
	}
}

func TestMinutesLeadToTheirLocalMinutes(t *testing.T) {
	skipped := 0
	minutes(func(z api.Zone, local int) {
		utc := UTC(z, local)
		again := Local(z, utc)
		if Exists(z, local) {
			if again != local {
				t.Fatalf("%v: the minute of the local minute %d is %d, at which it is %d", z, local, utc, again)
			}
			return
		}
		skipped++
		isShift := slices.ContainsFunc(z.Shifts, func(s api.Shift) bool { return s.At == utc })
		if again <= local || !isShift {
			t.Fatalf("%v: the minute of the local minute %d, which is skipped, is %d, at which it is %d", z, local, utc, again)
		}
	})
	if skipped == 0 {
		t.Error("no local minute is skipped")
	}
}

// P5.3

func TestMinutesDoNotDecrease(t *testing.T) {
	leaps := 0
	minutes(func(z api.Zone, local int) {
		by := UTC(z, local+1) - UTC(z, local)
		if by < 0 {
			t.Fatalf("%v: from the local minute %d to the next one, the minute decreases by %d", z, local, -by)
		}
		if by <= 1 {
			return
		}
		// Only the last one of the local minutes that occur twice has such a next one.
		leaps++
		if !Twice(z, local) || Twice(z, local+1) {
			t.Fatalf("%v: from the local minute %d to the next one, the minute increases by %d", z, local, by)
		}
	})
	if leaps == 0 {
		t.Error("no minute increases by more than 1")
	}
}

func TestMinutesDoNotDecreaseOverDays(t *testing.T) {
	check := func(z api.Zone, first, last, step int) {
		before := math.MinInt
		for local := first; local <= last; local += step {
			utc := UTC(z, local)
			if utc < before {
				t.Fatalf("UTC(%v, %d) = %d, but an earlier local minute has %d", z, local, utc, before)
			}
			before = utc
		}
	}
	zones(func(z api.Zone) {
		check(z, -far, far, far/64)
		check(z, -5000, api.MaxTime+5000, 71993)
	})
}
