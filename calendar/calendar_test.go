package calendar

import (
	"math"
	"math/big"
	"strconv"
	"strings"
	"testing"
	"time"

	"airline/api"
)

// outside are integers that are neither days nor minutes of a day. Some are small in 32 bits, or when they are multiplied by 1440.
func outside() []int {
	return []int{
		-1, -2, -7, -1440, -api.MaxDay, -api.MaxTime, api.MaxDay, api.MaxDay + 1, api.MaxTime, 1<<31 - 1, 1 << 31, 1 << 32, 1<<32 + 60, 1 << 59, 1 << 62,
		-1 << 32, -1 << 59, math.MaxInt, math.MaxInt - 1, math.MaxInt / 4, math.MaxInt/4 + 1, math.MinInt, math.MinInt + 1, math.MinInt / 4, math.MinInt/4 - 1,
	}
}

// integers calls f with many integers from the least to the greatest one.
func integers(f func(n int)) {
	for n := range 60000 {
		f(n)
		f(-n)
		f(math.MaxInt - n)
		f(math.MinInt + n)
		f(api.MaxTime - 30000 + n)
	}
	for n := 1; n < math.MaxInt/3; n *= 3 {
		f(n)
		f(-n)
	}
	for _, n := range outside() {
		f(n)
	}
}

// divided returns the exact quotient, rounded down, and the remainder.
func divided(n *big.Int, by int64) (int, int) {
	quotient, remainder := new(big.Int).DivMod(n, big.NewInt(by), new(big.Int))
	return int(quotient.Int64()), int(remainder.Int64())
}

// dateOf returns the date of a day, by package time.
func dateOf(day int) time.Time { return time.Date(2000, 1, 1+day, 0, 0, 0, 0, time.UTC) }

// oneByte returns the text of a single byte.
func oneByte(c int) string { return string([]byte{byte(c)}) }

// padded writes a number with at least n digits.
func padded(n, digits int) string {
	s := strconv.Itoa(n)
	return strings.Repeat("0", max(0, digits-len(s))) + s
}

// P3.1

type date struct{ day, year, month, dayOfMonth int }

func TestDates(t *testing.T) {
	for _, c := range []date{
		{0, 2000, 1, 1}, {1, 2000, 1, 2}, {30, 2000, 1, 31}, {31, 2000, 2, 1}, {58, 2000, 2, 28}, {59, 2000, 2, 29}, {60, 2000, 3, 1},
		{365, 2000, 12, 31}, {366, 2001, 1, 1}, {424, 2001, 2, 28}, {425, 2001, 3, 1}, {730, 2001, 12, 31}, {731, 2002, 1, 1},
		{1095, 2002, 12, 31}, {1096, 2003, 1, 1}, {1460, 2003, 12, 31}, {1461, 2004, 1, 1}, {1520, 2004, 2, 29}, {1521, 2004, 3, 1},
		{9497, 2026, 1, 1}, {9816, 2026, 11, 16}, {36524, 2099, 12, 31}, {36523, 2099, 12, 30}, {36160, 2099, 1, 1}, {36159, 2098, 12, 31},
	} {
		if n, e := Day(c.year, c.month, c.dayOfMonth); n != c.day || e != api.OK {
			t.Errorf("Day(%d, %d, %d) = %d, %d", c.year, c.month, c.dayOfMonth, n, e)
		}
		if y, m, d := Date(c.day); y != c.year || m != c.month || d != c.dayOfMonth {
			t.Errorf("Date(%d) = %d, %d, %d", c.day, y, m, d)
		}
	}
}

func TestEveryMonth(t *testing.T) {
	day := 0
	for year := 2000; year <= 2099; year++ {
		lengths := []int{31, 28, 31, 30, 31, 30, 31, 31, 30, 31, 30, 31}
		if year%4 == 0 {
			lengths[1] = 29
		}
		for i, length := range lengths {
			month := i + 1
			if n, e := Day(year, month, 1); n != day || e != api.OK {
				t.Errorf("Day(%d, %d, 1) = %d, %d", year, month, n, e)
			}
			if n, e := Day(year, month, length); n != day+length-1 || e != api.OK {
				t.Errorf("Day(%d, %d, %d) = %d, %d", year, month, length, n, e)
			}
			for _, d := range []int{-1, 0, length + 1} {
				if n, e := Day(year, month, d); n != 0 || e != api.ErrDay {
					t.Errorf("Day(%d, %d, %d) = %d, %d", year, month, d, n, e)
				}
			}
			day += length
		}
	}
	if day != api.MaxDay {
		t.Errorf("%d days", day)
	}
}

func TestEveryDay(t *testing.T) {
	for day := range api.MaxDay {
		y, m, d := Date(day)
		if want := dateOf(day); y != want.Year() || m != int(want.Month()) || d != want.Day() {
			t.Errorf("Date(%d) = %d, %d, %d", day, y, m, d)
		}
		if n, e := Day(y, m, d); n != day || e != api.OK {
			t.Errorf("Day(%d, %d, %d) = %d, %d", y, m, d, n, e)
		}
	}
}

func TestOnlyDatesHaveDays(t *testing.T) {
	found := 0
	for year := 1990; year <= 2110; year++ {
		for month := -2; month <= 15; month++ {
			for d := -2; d <= 34; d++ {
				date := time.Date(year, time.Month(month), d, 0, 0, 0, 0, time.UTC)
				want, wantError := 0, api.ErrDay
				if 2000 <= year && year <= 2099 && int(date.Month()) == month && date.Day() == d {
					want, wantError = int(date.Sub(dateOf(0)).Hours())/24, api.OK
					found++
				}
				if n, e := Day(year, month, d); n != want || e != wantError {
					t.Errorf("Day(%d, %d, %d) = %d, %d", year, month, d, n, e)
				}
			}
		}
	}
	if found != api.MaxDay {
		t.Errorf("%d days", found)
	}
}

func TestNoDate(t *testing.T) {
	refused := func(year, month, d int) {
		if n, e := Day(year, month, d); n != 0 || e != api.ErrDay {
			t.Errorf("Day(%d, %d, %d) = %d, %d", year, month, d, n, e)
		}
	}
	for _, c := range [][3]int{
		{1999, 12, 31}, {2100, 1, 1}, {0, 1, 1}, {26, 1, 1}, {-2000, 1, 1}, {2001, 2, 29}, {2000, 2, 30}, {2100, 2, 29}, {2026, 0, 1}, {2026, 13, 1},
		{2026, 4, 31}, {2026, 6, 31}, {2026, 9, 31}, {2026, 11, 31}, {2026, 12, 32}, {2026, 1, 0}, {2026, 3, 0}, {0, 0, 0}, {2026, 0, 0},
	} {
		refused(c[0], c[1], c[2])
	}
	for _, n := range outside() {
		refused(n, 1, 1)
		refused(2026, n, 1)
		refused(2026, 1, n)
		refused(n, n, n)
	}
	// In 32 bits these are a date.
	refused(2026+1<<32, 1, 1)
	refused(2026, 1+1<<32, 1)
	refused(2026, 1, 1+1<<32)
}

func TestNoDateOf(t *testing.T) {
	for _, n := range outside() {
		if y, m, d := Date(n); y != 0 || m != 0 || d != 0 {
			t.Errorf("Date(%d) = %d, %d, %d", n, y, m, d)
		}
	}
}

// P3.2

func TestWeekdays(t *testing.T) {
	for _, c := range [][2]int{
		{0, 5}, {1, 6}, {2, 0}, {-1, 4}, {-5, 0}, {-6, 6}, {-7, 5}, {-8, 4}, {7, 5}, {9497, 3}, {9816, 0}, {36524, 3}, {36525, 4},
		// 2^63 differs from 1 by a multiple of 7.
		{math.MaxInt, 5}, {math.MaxInt - 1, 4}, {math.MaxInt - 5, 0}, {math.MinInt, 4}, {math.MinInt + 1, 5}, {math.MinInt + 2, 6}, {math.MinInt + 3, 0},
	} {
		if w := Weekday(c[0]); w != c[1] {
			t.Errorf("Weekday(%d) = %d", c[0], w)
		}
	}
}

func TestWeekdayOfEveryDay(t *testing.T) {
	for day := range api.MaxDay {
		// Package time counts from Sunday on.
		if w := Weekday(day); (w+1)%7 != int(dateOf(day).Weekday()) {
			t.Errorf("Weekday(%d) = %d", day, w)
		}
	}
}

func TestWeekdayOfEveryInteger(t *testing.T) {
	integers(func(n int) {
		_, want := divided(new(big.Int).Add(big.NewInt(int64(n)), big.NewInt(5)), 7)
		w := Weekday(n)
		if w != want {
			t.Errorf("Weekday(%d) = %d, not %d", n, w, want)
		}
		if n < math.MaxInt && Weekday(n+1) != (w+1)%7 {
			t.Errorf("after the weekday %d of %d follows %d", w, n, Weekday(n+1))
		}
	})
}

// P3.3

func TestPrint(t *testing.T) {
	for _, c := range []struct {
		day int
		s   string
	}{
		{0, "2000-01-01"}, {8, "2000-01-09"}, {9, "2000-01-10"}, {59, "2000-02-29"}, {60, "2000-03-01"}, {274, "2000-10-01"}, {365, "2000-12-31"},
		{366, "2001-01-01"}, {3653, "2010-01-01"}, {9816, "2026-11-16"}, {36524, "2099-12-31"},
	} {
		if s := Print(c.day); s != c.s {
			t.Errorf("Print(%d) = %q", c.day, s)
		}
		if n, e := Parse(c.s); n != c.day || e != api.OK {
			t.Errorf("Parse(%q) = %d, %d", c.s, n, e)
		}
	}
	for _, n := range outside() {
		if s := Print(n); s != "" {
			t.Errorf("Print(%d) = %q", n, s)
		}
	}
}

func TestEveryDayIsReadAsPrinted(t *testing.T) {
	for day := range api.MaxDay {
		s := Print(day)
		if want := dateOf(day).Format("2006-01-02"); s != want {
			t.Errorf("Print(%d) = %q, not %q", day, s, want)
		}
		if n, e := Parse(s); n != day || e != api.OK {
			t.Errorf("Parse(%q) = %d, %d", s, n, e)
		}
	}
}

func TestOnlyPrintedDatesAreRead(t *testing.T) {
	accepted := 0
	years := []int{0, 1, 20, 200, 1000, 1600, 1900, 1999, 2100, 2101, 2400, 3000, 9999}
	for year := 2000; year <= 2099; year++ {
		years = append(years, year)
	}
	for _, year := range years {
		for month := range 100 {
			for d := range 100 {
				s := padded(year, 4) + "-" + padded(month, 2) + "-" + padded(d, 2)
				n, e := Parse(s)
				switch {
				case e == api.OK && Print(n) == s:
					accepted++
				case e != api.ErrDay || n != 0:
					t.Errorf("Parse(%q) = %d, %d", s, n, e)
				}
			}
		}
	}
	if accepted != api.MaxDay {
		t.Errorf("%d dates were accepted", accepted)
	}
}

func TestParseRefuses(t *testing.T) {
	for _, s := range []string{
		"", "-", "--", "2026", "2026-11", "2026-11-", "2026-11-1", "2026-1-16", "2026-1-1", "226-11-16", "26-11-16", "2026-11-6", "2026-11-016", "2026-011-16",
		"02026-11-16", "2026-11-166", "20261116", "2026/11/16", "2026.11.16", "2026-11/16", "2026/11-16", "2026 11 16", "2026--1-16", "2026-11--1", "-026-11-16",
		"+026-11-16", "2026-+1-16", "2026-11-+6", " 2026-11-16", "2026-11-16 ", "2026-11-16\n", "2026-11-1 ", "2026- 1-16", "2026-11- 6", "2026-11-16\x00",
		"2026-NOV-16", "2026-11-1a", "2026-11-1:", "2026-11-1/", "16-11-2026", "11-16-2026", "2026-11-16T", "0x26-11-16", "2_26-11-16", "\xd9\xa1\xd9\xa1-11-16",
		"2026\xe2\x80\x9011-16", "abcd-ef-gh", "0000-00-00x", strings.Repeat("2026-11-16", 1000), strings.Repeat("0", 100000),
		// There is no such date, but the form is named first.
		"2100-1-01", "2026-13-1", "9999-99-9", "99999-99-99", "2026-02-29 ", "2026/02/29",
	} {
		if n, e := Parse(s); n != 0 || e != api.ErrForm {
			t.Errorf("Parse(%q) = %d, %d", s, n, e)
		}
	}
	for _, s := range []string{
		"2026-02-29", "2000-02-30", "2001-02-29", "2099-02-29", "1999-12-31", "2100-01-01", "2026-00-16", "2026-13-16", "2026-11-00", "2026-11-31", "2026-12-32",
		"2026-01-32", "2026-04-31", "0000-00-00", "0000-01-01", "9999-12-31", "9999-99-99", "2026-99-01", "2026-01-99", "0026-11-16", "1926-11-16", "2126-11-16",
	} {
		if n, e := Parse(s); n != 0 || e != api.ErrDay {
			t.Errorf("Parse(%q) = %d, %d", s, n, e)
		}
	}
}

// checkBytes calls read with a text in which each byte is replaced by every other, added or left out, and right with those that have the same form.
func checkBytes(t *testing.T, s string, read func(string) (int, api.Errno), right func(string)) {
	t.Helper()
	refused := func(s string) {
		if n, e := read(s); n != 0 || e != api.ErrForm {
			t.Errorf("%q is read as %d, %d", s, n, e)
		}
	}
	for i := range len(s) + 1 {
		for c := range 256 {
			refused(s[:i] + oneByte(c) + s[i:])
		}
	}
	for i := range len(s) {
		refused(s[:i] + s[i+1:])
		refused(s[:i])
		sameForm := "0123456789"
		if !strings.Contains(sameForm, s[i:i+1]) {
			sameForm = s[i : i+1]
		}
		for c := range 256 {
			changed := s[:i] + oneByte(c) + s[i+1:]
			if strings.Contains(sameForm, oneByte(c)) {
				right(changed)
			} else {
				refused(changed)
			}
		}
	}
}

func TestEveryByteOfADate(t *testing.T) {
	checkBytes(t, "2026-11-16", Parse, func(s string) {
		n, e := Parse(s)
		want, err := time.Parse("2006-01-02", s)
		if err != nil || want.Year() < 2000 || want.Year() > 2099 {
			if n != 0 || e != api.ErrDay {
				t.Errorf("Parse(%q) = %d, %d", s, n, e)
			}
		} else if !dateOf(n).Equal(want) || e != api.OK {
			t.Errorf("Parse(%q) = %d, %d", s, n, e)
		}
	})
}

// P3.4

func TestClock(t *testing.T) {
	for _, c := range []struct {
		minute int
		s      string
	}{
		{0, "00:00"}, {1, "00:01"}, {9, "00:09"}, {10, "00:10"}, {59, "00:59"}, {60, "01:00"}, {545, "09:05"}, {599, "09:59"}, {600, "10:00"}, {719, "11:59"},
		{720, "12:00"}, {1200, "20:00"}, {1380, "23:00"}, {1439, "23:59"},
	} {
		if s := Clock(c.minute); s != c.s {
			t.Errorf("Clock(%d) = %q", c.minute, s)
		}
		if n, e := Minute(c.s); n != c.minute || e != api.OK {
			t.Errorf("Minute(%q) = %d, %d", c.s, n, e)
		}
	}
	for _, n := range append(outside(), 1440, 1441, 1500, 2400, 5999, 6000) {
		if s := Clock(n); s != "" {
			t.Errorf("Clock(%d) = %q", n, s)
		}
	}
}

func TestEveryMinuteOfADay(t *testing.T) {
	accepted := 0
	for hours := range 100 {
		for minutes := range 100 {
			s := padded(hours, 2) + ":" + padded(minutes, 2)
			n, e := Minute(s)
			if hours > 23 || minutes > 59 {
				if n != 0 || e != api.ErrTime {
					t.Errorf("Minute(%q) = %d, %d", s, n, e)
				}
				continue
			}
			accepted++
			if n != hours*60+minutes || e != api.OK || Clock(n) != s {
				t.Errorf("Minute(%q) = %d, %d; Clock(%d) = %q", s, n, e, n, Clock(n))
			}
		}
	}
	if accepted != api.DayMinutes {
		t.Errorf("%d times were accepted", accepted)
	}
}

func TestMinuteRefuses(t *testing.T) {
	for _, s := range []string{
		"", ":", "9:05", "09:5", "9:5", "009:05", "09:005", "09:05:00", "0905", "09.05", "09-05", "09 05", "09;05", " 9:05", "09: 5", "09:05 ", " 09:05", "09:05\n",
		"-9:05", "09:-5", "+9:05", "09:+5", "0a:05", "09:0a", "0/:05", "09:0:", "::::5", "09::5", "09:05AM", "\xd9\xa1:05", "09:\xd9\xa1", "0:905", "090:5", "ab:cd",
		strings.Repeat("09:05", 1000),
		// There is no such time, but the form is named first.
		"24:0", "24:000", "99:99 ", "24.00", "99.99", "10:6", "060:00",
	} {
		if n, e := Minute(s); n != 0 || e != api.ErrForm {
			t.Errorf("Minute(%q) = %d, %d", s, n, e)
		}
	}
	for _, s := range []string{"24:00", "24:59", "25:00", "99:00", "00:60", "10:60", "23:60", "23:99", "24:60", "99:99"} {
		if n, e := Minute(s); n != 0 || e != api.ErrTime {
			t.Errorf("Minute(%q) = %d, %d", s, n, e)
		}
	}
}

func TestEveryByteOfATime(t *testing.T) {
	checkBytes(t, "09:05", Minute, func(s string) {
		n, e := Minute(s)
		want, err := time.Parse("15:04", s)
		if err != nil {
			if n != 0 || e != api.ErrTime {
				t.Errorf("Minute(%q) = %d, %d", s, n, e)
			}
		} else if n != want.Hour()*60+want.Minute() || e != api.OK {
			t.Errorf("Minute(%q) = %d, %d", s, n, e)
		}
	})
}

// P3.5

func TestSplit(t *testing.T) {
	for _, c := range [][3]int{
		{0, 0, 0}, {1, 0, 1}, {1439, 0, 1439}, {1440, 1, 0}, {1441, 1, 1}, {1500, 1, 60}, {2880, 2, 0},
		{-1, -1, 1439}, {-2, -1, 1438}, {-1439, -1, 1}, {-1440, -1, 0}, {-1441, -2, 1439}, {-2880, -2, 0},
		{9816*1440 + 545, 9816, 545}, {api.MaxTime - 1, api.MaxDay - 1, 1439}, {api.MaxTime, api.MaxDay, 0}, {-api.MaxTime, -api.MaxDay, 0},
		{math.MaxInt, 6405119470038038, 1087}, {math.MinInt, -6405119470038039, 352},
	} {
		if d, m := Split(c[0]); d != c[1] || m != c[2] {
			t.Errorf("Split(%d) = %d, %d", c[0], d, m)
		}
	}
}

func TestSplitOfEveryInteger(t *testing.T) {
	integers(func(n int) {
		wantDay, wantMinute := divided(big.NewInt(int64(n)), api.DayMinutes)
		if d, m := Split(n); d != wantDay || m != wantMinute {
			t.Errorf("Split(%d) = %d, %d, not %d, %d", n, d, m, wantDay, wantMinute)
		}
	})
}
