package cabin

import (
	"math"
	"reflect"
	"slices"
	"strconv"
	"strings"
	"testing"

	"airline/api"
)

// list returns a list, to write it shortly; class, in and config return a class, a cabin and a configuration.
func list[T any](l ...T) []T { return l }

func class(code string, protect int) api.Class { return api.Class{Code: code, Protect: protect} }

func in(name string, seats, over int, classes ...api.Class) api.Cabin {
	return api.Cabin{Name: name, Seats: seats, Over: over, Classes: classes}
}

func config(equip string, cabins ...api.Cabin) api.Config {
	return api.Config{Equip: equip, Cabins: cabins}
}

// jet returns a right configuration of two cabins, and small one of a single cabin.
func jet() api.Config {
	return config("777", in("F", 4, 0, class("F", 0)), in("Y", 10, 1, class("Y", 3), class("M", 5)))
}

func small() api.Config { return config("320", in("Y", 9, 0, class("Y", 0), class("B", 0))) }

// codes returns so many classes with different codes that are right.
func codes(n int) []api.Class {
	var l []api.Class
	for i := range n {
		l = append(l, class(string(rune('A'+i)), 0))
	}
	return l
}

// numbers returns a source of numbers from 0 to n - 1 that look like chance.
func numbers(seed uint64) func(n int) int {
	return func(n int) int {
		seed = seed*6364136223846793005 + 1442695040888963407
		return int(seed >> 33 % uint64(n))
	}
}

// each calls f with all lists of up to a number of elements of a set.
func each[T any](set []T, most int, f func(l []T)) {
	f(nil)
	if most == 0 {
		return
	}
	for _, x := range set {
		each(set, most-1, func(l []T) { f(append([]T{x}, l...)) })
	}
}

// P12.1

// checkIs fails if Check does not return these violations, which are written like "2 config 0", in this order.
func checkIs(t *testing.T, l []api.Config, want ...string) {
	t.Helper()
	got := []string{}
	for _, x := range Check(l) {
		got = append(got, strconv.Itoa(int(x.Err))+" "+x.At)
	}
	if !slices.Equal(got, want) {
		t.Errorf("Check(%v) = %q, not %q", l, got, want)
	}
}

// cabinIs fails if Check does not return these violations for a configuration with one cabin only, wherever the configuration is. They are written like "2 class 1", or only "2" for those of the cabin.
func cabinIs(t *testing.T, c api.Cabin, want ...string) {
	t.Helper()
	at := func(place string) []string {
		var l []string
		for _, x := range want {
			code, rest, inside := strings.Cut(x, " ")
			if inside {
				rest = " " + rest
			}
			l = append(l, code+" "+place+rest)
		}
		return l
	}
	checkIs(t, list(config("320", c)), at("config 0 cabin 0")...)
	checkIs(t, list(jet(), small(), config("32A", c), config("32B", in("ZZ", 1, 0, class("Z", 0)))), at("config 2 cabin 0")...)
	checkIs(t, list(config("320", in("ZZ", 1, 0, class("Z", 0)), c)), at("config 0 cabin 1")...)
}

func TestCheckOfRightConfigurations(t *testing.T) {
	checkIs(t, nil)
	checkIs(t, []api.Config{})
	checkIs(t, list(jet()))
	checkIs(t, list(small()))
	checkIs(t, list(jet(), small()))
	checkIs(t, list(small(), jet()))
	// The same names and classes in two configurations.
	again := jet()
	again.Equip = "77W"
	checkIs(t, list(jet(), again))
}

func TestCheckOfExamples(t *testing.T) {
	checkIs(t, list(config("320", in("Y", 10, 0, class("Y", 3), class("Y", 2)))), "6 config 0 cabin 0 class 1", "2 config 0 cabin 0 class 1")
	// Example 3 of DOC.md.
	checkIs(t, list(config("320", in("Y", 10, 1, class("Y", 3), class("M", 0)))), "2 config 0 cabin 0 class 1")
	checkIs(t, list(config("320", in("Y", 10, 1, class("Y", 3), class("M", 3)))))
}

func TestCheckOfEquip(t *testing.T) {
	cabin := in("Y", 10, 0, class("Y", 0))
	for _, equip := range []string{"320", "77W", "AAA", "ZZZ", "000", "999", "A00", "0A0", "00A", "Z9Z", "9Z9"} {
		checkIs(t, list(config(equip, cabin)))
	}
	for _, equip := range []string{"", "3", "32", "3200", "A320", "77w", "w77", "7w7", "abc", "Abc", "ABc", " 32", "32 ", "3 2", "320 ", " 320", "   ", "32\x00", "3-0", "32.", "@AA", "A[A", "/11", "1:1", "A`A", "A{A", "Ä0", "Ä", "ÄÖÜ", "\xff\xff\xff", "320320", strings.Repeat("320", 1000)} {
		checkIs(t, list(config(equip, cabin)), "5 config 0")
		checkIs(t, list(jet(), config(equip, cabin), small()), "5 config 1")
	}
}

func TestCheckOfEqualEquips(t *testing.T) {
	cabin := in("Y", 10, 0, class("Y", 0))
	other := in("C", 5, 1, class("C", 6))
	checkIs(t, list(config("320", cabin), config("320", cabin)), "6 config 1")
	checkIs(t, list(config("320", cabin), config("320", other)), "6 config 1")
	checkIs(t, list(config("320", cabin), config("320", cabin), config("320", cabin)), "6 config 1", "6 config 2")
	checkIs(t, list(config("320", cabin), config("321", cabin), config("320", other)), "6 config 2")
	checkIs(t, list(config("320", cabin), config("321", cabin), config("320", other), config("321", cabin), config("322", cabin)), "6 config 2", "6 config 3")
	// Also where they are no equipment.
	checkIs(t, list(config("32", cabin), config("32", cabin), config("32", cabin)), "5 config 0", "5 config 1", "6 config 1", "5 config 2", "6 config 2")
	checkIs(t, list(config("", cabin), config("320", cabin), config("", cabin)), "5 config 0", "5 config 2", "6 config 2")
	checkIs(t, list(config("320", cabin), config("32O", cabin), config("32o", cabin), config("320 ", cabin)), "5 config 2", "5 config 3")
}

func TestCheckOfNumberOfCabins(t *testing.T) {
	var cabins []api.Cabin
	for i := range 9 {
		cabins = append(cabins, in("C"+strconv.Itoa(i), 10, 0, codes(9)[i]))
	}
	for n := range cabins {
		if 1 <= n && n <= 4 {
			checkIs(t, list(config("320", cabins[:n]...)))
		} else {
			checkIs(t, list(config("320", cabins[:n]...)), "4 config 0")
			checkIs(t, list(jet(), config("320", cabins[:n]...), small()), "4 config 1", "6 config 2")
		}
	}
	checkIs(t, list(api.Config{Equip: "320"}, api.Config{Equip: "321", Cabins: []api.Cabin{}}), "4 config 0", "4 config 1")
	// The cabins of a configuration that has too many are checked, too.
	checkIs(t, list(config("320", cabins[0], cabins[1], cabins[2], cabins[3], cabins[0], in("X", 0, 0, class("X", 0)))), "4 config 0", "6 config 0 cabin 4", "6 config 0 cabin 4 class 0", "2 config 0 cabin 5")
}

func TestCheckOfNames(t *testing.T) {
	for _, name := range []string{"Y", "0", "9", "A", "Z", "AA", "A1", "1A", "12", "BUSINESS", "12345678", "A2345678", "1234567Z", "ECONOMY"} {
		cabinIs(t, in(name, 10, 0, class("Y", 0)))
	}
	for _, name := range []string{"", "123456789", "ECONOMYYY", "PREMIUM ECONOMY", "y", "Yy", "yY", "business", "BUSINESs", " ", " Y", "Y ", "A B", "Y\x00", "\x00", "-", "Y-", "@", "[", "/", ":", "`", "{", "Ä", "ÄÖ", "ÄÖÜÄ", "\xff", strings.Repeat("Y", 1000)} {
		cabinIs(t, in(name, 10, 0, class("Y", 0)), "5")
	}
}

func TestCheckOfEqualNames(t *testing.T) {
	named := func(names ...string) api.Config {
		c := config("320")
		for i, name := range names {
			c.Cabins = append(c.Cabins, in(name, 10, 0, codes(len(names))[i]))
		}
		return c
	}
	checkIs(t, list(named("Y", "Y")), "6 config 0 cabin 1")
	checkIs(t, list(named("Y", "Y", "Y")), "6 config 0 cabin 1", "6 config 0 cabin 2")
	checkIs(t, list(named("Y", "F", "Y", "F")), "6 config 0 cabin 2", "6 config 0 cabin 3")
	checkIs(t, list(named("Y", "F", "C", "F")), "6 config 0 cabin 3")
	checkIs(t, list(named("Y", "YY", "0Y", "0")))
	// Also where they are no names.
	checkIs(t, list(named("", "y", "", "y")), "5 config 0 cabin 0", "5 config 0 cabin 1", "5 config 0 cabin 2", "6 config 0 cabin 2", "5 config 0 cabin 3", "6 config 0 cabin 3")
	// In two configurations they do not count.
	other := named("Y", "F")
	other.Equip = "321"
	checkIs(t, list(named("F", "Y"), other))
	// A name is not the code of a class.
	checkIs(t, list(config("320", in("F", 10, 0, class("Y", 0)), in("Y", 10, 0, class("F", 0)))))
}

// outOf are numbers that are out of the ranges of Seats and Over. Some are small in 16 or 32 bits.
func outOf() []int {
	return []int{-1, -2, -999, -1000, 1000, 1001, 9999, 1 << 16, 1<<16 + 10, 1 << 31, 1 << 32, 1<<32 + 10, -1 << 32, -1<<32 + 10, math.MaxInt, math.MaxInt - 1, math.MinInt, math.MinInt + 1, math.MinInt + 10}
}

func TestCheckOfSeats(t *testing.T) {
	for _, seats := range []int{1, 2, 255, 256, 998, 999} {
		for _, over := range []int{0, 1, 255, 256, 998, 999} {
			cabinIs(t, in("Y", seats, over, class("Y", 0)))
		}
	}
	for _, n := range append(outOf(), 0) {
		for _, over := range []int{0, 1, 10, 998, 999} {
			cabinIs(t, in("Y", n, over, class("Y", 0)), "2")
			cabinIs(t, in("Y", n, over, class("Y", 5)), "2")
		}
	}
	for _, n := range outOf() {
		for _, seats := range []int{1, 2, 10, 998, 999} {
			cabinIs(t, in("Y", seats, n, class("Y", 0)), "2")
			cabinIs(t, in("Y", seats, n, class("Y", 5)), "2")
		}
		// Both together are one violation.
		for _, seats := range append(outOf(), 0) {
			cabinIs(t, in("Y", seats, n, class("Y", 0)), "2")
		}
	}
}

func TestCheckOfNumberOfClasses(t *testing.T) {
	for n := range 26 {
		checkIs(t, list(config("320", in("Y", 10, 0, codes(n+1)...))))
		checkIs(t, list(config("320", in("Y", 10, 0, codes(26)[:n]...), in("F", 10, 0, codes(26)[n:]...))), wants(n == 0, "4 config 0 cabin 0")...)
	}
	cabinIs(t, in("Y", 10, 0), "4")
	cabinIs(t, api.Cabin{Name: "Y", Seats: 10, Classes: []api.Class{}}, "4")
	more := append(codes(25), class("y", 0), class("x", 0), class("w", 0))
	cabinIs(t, in("Y", 10, 0, more[:26]...), "16 class 25")
	cabinIs(t, in("Y", 10, 0, more[:27]...), "4", "16 class 25", "16 class 26")
	cabinIs(t, in("Y", 10, 0, more...), "4", "16 class 25", "16 class 26", "16 class 27")
	// With one more than there are codes, one occurs twice.
	checkIs(t, list(config("320", in("Y", 10, 0, append(codes(26), class("Q", 0))...))), "4 config 0 cabin 0", "6 config 0 cabin 0 class 26")
	// The limit is that of a cabin, not of a configuration.
	checkIs(t, list(config("320", in("Y", 10, 0, codes(26)...), in("F", 10, 0, class("a", 0), class("b", 0)))), "16 config 0 cabin 1 class 0", "16 config 0 cabin 1 class 1")
}

// wants returns a violation, if there is one.
func wants(violated bool, fault string) []string {
	if violated {
		return list(fault)
	}
	return nil
}

func TestCheckOfCodes(t *testing.T) {
	for _, code := range []string{"A", "B", "M", "Y"} {
		cabinIs(t, in("C", 10, 0, class(code, 0)))
		cabinIs(t, in("C", 10, 0, class("X", 0), class(code, 0)))
	}
	for _, code := range []string{"", "y", "a", "0", "9", "YY", "YM", "Y ", " Y", " ", "-", "@", "[", "`", "{", "Y\x00", "\x00", "Ä", "\xff", strings.Repeat("Y", 1000)} {
		cabinIs(t, in("C", 10, 0, class(code, 0)), "16 class 0")
		cabinIs(t, in("C", 10, 0, class("X", 0), class(code, 0), class("Y", 0)), "16 class 1")
	}
}

func TestCheckOfEqualCodes(t *testing.T) {
	// In one cabin.
	cabinIs(t, in("Y", 10, 0, class("Y", 0), class("Y", 0)), "6 class 1")
	cabinIs(t, in("Y", 10, 0, class("Y", 1), class("M", 2), class("Y", 3)), "6 class 2")
	cabinIs(t, in("Y", 10, 0, class("Y", 0), class("Y", 0), class("Y", 0)), "6 class 1", "6 class 2")
	cabinIs(t, in("Y", 10, 0, class("Y", 0), class("M", 0), class("B", 0), class("M", 0), class("Y", 0)), "6 class 3", "6 class 4")
	// In two and three cabins of a configuration.
	first, second, third := in("F", 10, 0, class("F", 0), class("Y", 0)), in("C", 10, 0, class("C", 0), class("F", 0)), in("Y", 10, 0, class("Y", 0), class("C", 0), class("F", 0))
	checkIs(t, list(config("320", first, second)), "6 config 0 cabin 1 class 1")
	checkIs(t, list(config("320", second, first)), "6 config 0 cabin 1 class 0")
	checkIs(t, list(config("320", first, second, third)), "6 config 0 cabin 1 class 1", "6 config 0 cabin 2 class 0", "6 config 0 cabin 2 class 1", "6 config 0 cabin 2 class 2")
	// In two configurations they do not count, also where one of them is not right.
	checkIs(t, list(config("320", first), config("321", first), config("32", first)), "5 config 2")
	// Also where they are no classes.
	cabinIs(t, in("Y", 10, 0, class("y", 0), class("y", 0), class("", 0), class("", 0), class("Yy", 0)), "16 class 0", "16 class 1", "6 class 1", "16 class 2", "16 class 3", "6 class 3", "16 class 4")
	checkIs(t, list(config("320", in("F", 10, 0, class("f", 0)), in("Y", 10, 0, class("f", 0)))), "16 config 0 cabin 0 class 0", "16 config 0 cabin 1 class 0", "6 config 0 cabin 1 class 0")
}

// protects returns a cabin whose classes have these numbers.
func protects(seats, over int, l ...int) api.Cabin {
	c := in("C", seats, over, codes(len(l))...)
	for i, n := range l {
		c.Classes[i].Protect = n
	}
	return c
}

func TestCheckOfProtect(t *testing.T) {
	for _, c := range []struct {
		protect []int
		want    []string
	}{
		{list(0), nil}, {list(1), nil}, {list(11), nil}, {list(12), list("2 class 0")}, {list(13), list("2 class 0")}, {list(-1), list("2 class 0")}, {list(-11), list("2 class 0")},
		{list(0, 0), nil}, {list(3, 3), nil}, {list(3, 4), nil}, {list(3, 2), list("2 class 1")}, {list(11, 11), nil}, {list(11, 12), list("2 class 1")}, {list(11, 10), list("2 class 1")},
		// Each one is compared with the one before it only.
		{list(3, 2, 2), list("2 class 1")}, {list(3, 2, 1), list("2 class 1", "2 class 2")}, {list(5, 0, 3), list("2 class 1")}, {list(5, 3, 4, 2, 11), list("2 class 1", "2 class 3")},
		{list(12, 11), list("2 class 0", "2 class 1")}, {list(12, 12), list("2 class 0", "2 class 1")}, {list(3, 12, 13), list("2 class 1", "2 class 2")}, {list(3, 12, 4), list("2 class 1", "2 class 2")},
		{list(-1, 0), list("2 class 0")}, {list(-2, -1), list("2 class 0", "2 class 1")}, {list(-1, -2), list("2 class 0", "2 class 1")}, {list(-3, -3, 0, 0), list("2 class 0", "2 class 1")}, {list(3, -1, 0, 5), list("2 class 1")}, {list(3, -1, -1), list("2 class 1", "2 class 2")},
		{list(math.MinInt), list("2 class 0")}, {list(math.MaxInt), list("2 class 0")}, {list(math.MinInt, math.MaxInt, 0), list("2 class 0", "2 class 1", "2 class 2")}, {list(0, math.MinInt, 0), list("2 class 1")},
		{list(1<<32 + 3), list("2 class 0")}, {list(-1<<32 + 3), list("2 class 0")}, {list(1 << 16), list("2 class 0")}, {list(3, 1<<32+4), list("2 class 1")},
	} {
		cabinIs(t, protects(10, 1, c.protect...), c.want...)
		cabinIs(t, protects(1, 10, c.protect...), c.want...)
		cabinIs(t, protects(11, 0, c.protect...), c.want...)
	}
	// The classes of a second cabin are not compared with the last one of the first.
	checkIs(t, list(config("320", in("F", 10, 0, class("F", 3), class("A", 10)), in("Y", 10, 0, class("Y", 2), class("M", 3)))))
	checkIs(t, list(config("320", in("F", 10, 0, class("F", 10)), in("Y", 10, 0, class("Y", 0))), config("321", in("Y", 5, 0, class("Y", 0)))))
	// Nor with the authorized level of the first.
	checkIs(t, list(config("320", in("F", 10, 0, class("F", 10)), in("Y", 5, 0, class("Y", 6)))), "2 config 0 cabin 1 class 0")
	checkIs(t, list(config("320", in("F", 5, 0, class("F", 5)), in("Y", 6, 0, class("Y", 6)))))
	// At the greatest authorized level.
	cabinIs(t, protects(999, 999, 999, 1000, 1998))
	cabinIs(t, protects(999, 999, 1998, 1999), "2 class 1")
}

func TestCheckOfProtectWithoutAuthorized(t *testing.T) {
	for _, size := range [][2]int{{0, 0}, {0, 5}, {-1, 0}, {1000, 0}, {10, -1}, {10, 1000}, {-5, 1000}, {math.MinInt, 0}, {math.MaxInt, math.MaxInt}, {math.MinInt, math.MinInt}, {1, math.MaxInt}} {
		for _, c := range []struct {
			protect []int
			want    []string
		}{
			{list(0), nil}, {list(12), nil}, {list(5000, math.MaxInt), nil}, {list(-1), list("2 class 0")}, {list(5000, 4999), list("2 class 1")}, {list(math.MaxInt, 0), list("2 class 1")},
			{list(math.MinInt, -1, 0), list("2 class 0", "2 class 1")}, {list(3, 3, 2), list("2 class 2")},
		} {
			cabinIs(t, protects(size[0], size[1], c.protect...), append(list("2"), c.want...)...)
		}
	}
}

func TestCheckOfSeveralViolations(t *testing.T) {
	// Of a configuration, of a cabin, and of a class.
	checkIs(t, list(config("32"), config("32")), "5 config 0", "4 config 0", "5 config 1", "6 config 1", "4 config 1")
	checkIs(t, list(config("320", in("y", 0, 0), in("y", 0, -1))), "5 config 0 cabin 0", "2 config 0 cabin 0", "4 config 0 cabin 0", "5 config 0 cabin 1", "6 config 0 cabin 1", "2 config 0 cabin 1", "4 config 0 cabin 1")
	cabinIs(t, in("Y", 10, 0, class("y", 3), class("y", 2)), "16 class 0", "16 class 1", "6 class 1", "2 class 1")
	// The first cabin with its classes comes before the second, and a configuration with all of them before the next.
	checkIs(t, list(
		config("7", in("", 10, 0, class("", -1), class("", -2)), in("", 10, 0, class("A", 11))),
		config("7", in("A", 10, 0, class("A", 11)), in("B", 10, 0), in("A", 10, 0, class("A", 0)), in("C", 10, 0, class("C", 0)), in("D", 0, 0, class("D", 0))),
		config("8", in("A", 10, 0, class("A", 11))),
	),
		"5 config 0", "5 config 0 cabin 0", "16 config 0 cabin 0 class 0", "2 config 0 cabin 0 class 0", "16 config 0 cabin 0 class 1", "6 config 0 cabin 0 class 1", "2 config 0 cabin 0 class 1",
		"5 config 0 cabin 1", "6 config 0 cabin 1", "2 config 0 cabin 1 class 0",
		"5 config 1", "6 config 1", "4 config 1", "2 config 1 cabin 0 class 0", "4 config 1 cabin 1", "6 config 1 cabin 2", "6 config 1 cabin 2 class 0", "2 config 1 cabin 4",
		"5 config 2", "2 config 2 cabin 0 class 0")
}

// violations returns the violations of configurations, by the definition.
func violations(l []api.Config) []api.Fault {
	var faults []api.Fault
	add := func(at string, e api.Errno, violated bool) {
		if violated {
			faults = append(faults, api.Fault{Err: e, At: at})
		}
	}
	capitals := "ABCDEFGHIJKLMNOPQRSTUVWXYZ"
	consists := func(s, of string) bool { return strings.Trim(s, of) == "" }
	for i, c := range l {
		at := "config " + strconv.Itoa(i)
		add(at, api.ErrName, len(c.Equip) != 3 || !consists(c.Equip, capitals+"0123456789"))
		add(at, api.ErrTwice, slices.ContainsFunc(l[:i], func(x api.Config) bool { return x.Equip == c.Equip }))
		add(at, api.ErrSize, len(c.Cabins) == 0 || len(c.Cabins) > 4)
		var before []api.Class
		for k, cabin := range c.Cabins {
			at := at + " cabin " + strconv.Itoa(k)
			ranges := cabin.Seats >= 1 && cabin.Seats <= 999 && cabin.Over >= 0 && cabin.Over <= 999
			add(at, api.ErrName, len(cabin.Name) == 0 || len(cabin.Name) > 8 || !consists(cabin.Name, capitals+"0123456789"))
			add(at, api.ErrTwice, slices.ContainsFunc(c.Cabins[:k], func(x api.Cabin) bool { return x.Name == cabin.Name }))
			add(at, api.ErrArg, !ranges)
			add(at, api.ErrSize, len(cabin.Classes) == 0 || len(cabin.Classes) > 26)
			for m, class := range cabin.Classes {
				at := at + " class " + strconv.Itoa(m)
				add(at, api.ErrClass, len(class.Code) != 1 || !consists(class.Code, capitals))
				add(at, api.ErrTwice, slices.ContainsFunc(before, func(x api.Class) bool { return x.Code == class.Code }))
				add(at, api.ErrArg, class.Protect < 0 || m > 0 && class.Protect < cabin.Classes[m-1].Protect || ranges && class.Protect > cabin.Seats+cabin.Over)
				before = append(before, class)
			}
		}
	}
	return faults
}

// defined fails if Check does not return the violations of the definition. It counts them.
func defined(t *testing.T, l []api.Config, seen map[int]int) {
	t.Helper()
	got, want := Check(l), violations(l)
	if !slices.Equal(got, want) {
		t.Fatalf("Check(%v) = %v, not %v", l, got, want)
	}
	seen[len(want)]++
}

// oddCabins returns cabins of which most are not right: two names and two sizes with all lists of up to two classes of a set.
func oddCabins() []api.Cabin {
	var l []api.Cabin
	each(list(class("Y", 0), class("M", 3), class("M", 4), class("m", -1)), 2, func(classes []api.Class) {
		for _, seats := range []int{3, 0} {
			l = append(l, in("Y", seats, 0, classes...), in("y", seats, 0, classes...))
		}
	})
	return l
}

func TestCheckIsAsDefinedForPairsOfCabins(t *testing.T) {
	seen := make(map[int]int)
	each(oddCabins(), 2, func(l []api.Cabin) { defined(t, list(config("320", l...)), seen) })
	for n := range 11 {
		if seen[n] == 0 {
			t.Errorf("no configuration has %d violations", n)
		}
	}
}

func TestCheckIsAsDefinedForLists(t *testing.T) {
	seen := make(map[int]int)
	configs := list(jet(), small(), config("777"), config("32"), config("777", in("Y", 10, 0, class("Y", 0)), in("Y", 0, 0, class("Y", 0))), config("320", oddCabins()[:5]...))
	each(configs, 4, func(l []api.Config) { defined(t, l, seen) })
	cabins := oddCabins()
	next := numbers(1)
	for range 3000 {
		var l []api.Config
		for range next(5) {
			c := config(list("777", "320", "321", "32", "32a")[next(5)])
			for range next(6) {
				cabin := cabins[next(len(cabins))]
				cabin.Name = list("Y", "F", "C", "W", "y", "ABCDEFGHI")[next(6)]
				cabin.Seats, cabin.Over = next(5), next(5)-1
				cabin.Classes = nil
				for range next(5) {
					cabin.Classes = append(cabin.Classes, class(string(rune('A'+next(20))), next(8)-1))
				}
				c.Cabins = append(c.Cabins, cabin)
			}
			l = append(l, c)
		}
		defined(t, l, seen)
	}
	if seen[0] == 0 {
		t.Error("no list is right")
	}
}

// Check compares each element with those before it; with so many, there is no time for all pairs.
func TestCheckOfManyElements(t *testing.T) {
	const many = 100000
	configs := make([]api.Config, many)
	cabins := make([]api.Cabin, many)
	classes := make([]api.Class, many)
	for i := range many {
		s := strings.Repeat("x", i%100) + strconv.Itoa(i/100)
		configs[i] = config(s+"..", in("Y", 10, 0, class("Y", 0)))
		cabins[i] = in(s+"........", 10, 0, class("  "+s, 0))
		classes[i] = class("  "+s, 0)
	}
	for _, c := range []struct {
		l    []api.Config
		each []string // the violations of each element
		last []string // and those of the last one, which is the first one again
	}{
		{append(configs, configs[0]), list("5 config #"), list("5 config #", "6 config #")},
		{list(config("320", append(cabins, cabins[0])...)), list("5 config 0 cabin #", "16 config 0 cabin # class 0"), list("5 config 0 cabin #", "6 config 0 cabin #", "16 config 0 cabin # class 0", "6 config 0 cabin # class 0")},
		{list(config("320", in("Y", 10, 0, append(classes, classes[0])...))), list("16 config 0 cabin 0 class #"), list("16 config 0 cabin 0 class #", "6 config 0 cabin 0 class #")},
	} {
		got := slices.DeleteFunc(Check(c.l), func(x api.Fault) bool { return x.Err == api.ErrSize })
		for i := range many + 1 {
			want := c.each
			if i == many {
				want = c.last
			}
			for _, x := range want {
				if len(got) == 0 || strconv.Itoa(int(got[0].Err))+" "+got[0].At != strings.ReplaceAll(x, "#", strconv.Itoa(i)) {
					t.Fatalf("a violation is not %s of element %d", x, i)
				}
				got = got[1:]
			}
		}
		if len(got) > 0 {
			t.Errorf("there are more violations: %v", got)
		}
	}
}

// P12.2: Find

// findIs fails if Find does not return this configuration.
func findIs(t *testing.T, l []api.Config, equip string, want api.Config, found bool) {
	t.Helper()
	if got, ok := Find(l, equip); ok != found || !reflect.DeepEqual(got, want) {
		t.Errorf("Find(%v, %q) = %v, %t, not %v, %t", l, equip, got, ok, want, found)
	}
}

func TestFind(t *testing.T) {
	for _, l := range [][]api.Config{list(jet(), small()), list(small(), jet()), list(config("321"), jet(), config("77"), small())} {
		findIs(t, l, "777", jet(), true)
		findIs(t, l, "320", small(), true)
	}
	findIs(t, list(config("321"), jet(), config("")), "321", config("321"), true)
	empty := api.Config{Equip: "321", Cabins: []api.Cabin{}}
	findIs(t, list(small(), empty), "321", empty, true)
}

func TestFindWithoutConfiguration(t *testing.T) {
	for _, equip := range []string{"", "330", "777", "32", "3200", "32O", "320 ", " 320", "77", "77w", "F", "Y", "\x00", strings.Repeat("320", 1000)} {
		findIs(t, nil, equip, api.Config{}, false)
		findIs(t, []api.Config{}, equip, api.Config{}, false)
		findIs(t, list(small(), config("77W", jet().Cabins...)), equip, api.Config{}, false)
	}
}

func TestFindOfSeveral(t *testing.T) {
	other := config("777", in("C", 5, 5, class("C", 1)))
	findIs(t, list(jet(), other), "777", jet(), true)
	findIs(t, list(other, jet()), "777", other, true)
	findIs(t, list(small(), other, jet(), other), "777", other, true)
	findIs(t, list(config("777"), jet()), "777", config("777"), true)
}

func TestFindOfWrongEquips(t *testing.T) {
	for _, equip := range []string{"", "7", "7777", "77w", "\x00", "\xff\xff"} {
		bad := config(equip, in("", -1, -1, class("", -1)), in("", 0, 0))
		findIs(t, list(jet(), bad, config(equip)), equip, bad, true)
	}
}

// P12.2: Place

// placeIs fails if Place does not return this cabin and this rank.
func placeIs(t *testing.T, c api.Config, class string, cabin, rank int) {
	t.Helper()
	if i, k, ok := Place(c, class); i != cabin || k != rank || !ok {
		t.Errorf("Place(%v, %q) = %d, %d, %t, not %d, %d, true", c, class, i, k, ok, cabin, rank)
	}
}

// noPlace fails if Place finds a class.
func noPlace(t *testing.T, c api.Config, class string) {
	t.Helper()
	if i, k, ok := Place(c, class); i != 0 || k != 0 || ok {
		t.Errorf("Place(%v, %q) = %d, %d, %t, not 0, 0, false", c, class, i, k, ok)
	}
}

func TestPlace(t *testing.T) {
	placeIs(t, jet(), "F", 0, 0)
	placeIs(t, jet(), "Y", 1, 0)
	// The example of the chapter.
	placeIs(t, jet(), "M", 1, 1)
	for i, c := range codes(26) {
		placeIs(t, config("320", in("Y", 10, 0, codes(26)...)), c.Code, 0, i)
		placeIs(t, config("320", in("F", 10, 0, codes(26)[:10]...), in("C", 10, 0), in("W", 10, 0, codes(26)[10:20]...), in("P", 10, 0), in("Y", 10, 0, codes(26)[20:]...)), c.Code, i/10*2, i%10)
	}
}

func TestPlaceWithoutClass(t *testing.T) {
	for _, class := range []string{"", "Q", "f", "FY", "F ", " F", "777", "\x00", strings.Repeat("F", 1000)} {
		noPlace(t, jet(), class)
		noPlace(t, config("320"), class)
		noPlace(t, api.Config{}, class)
		noPlace(t, config("320", in("F", 10, 0), in("Q", 10, 0)), class)
	}
}

func TestPlaceOfSeveral(t *testing.T) {
	y, m := class("Y", 0), class("M", 0)
	placeIs(t, config("320", in("Y", 10, 0, m, y, y)), "Y", 0, 1)
	placeIs(t, config("320", in("Y", 10, 0, y, m, y)), "Y", 0, 0)
	placeIs(t, config("320", in("F", 10, 0, m, m, y), in("Y", 10, 0, y)), "Y", 0, 2)
	placeIs(t, config("320", in("F", 10, 0, m), in("Y", 10, 0, m, y), in("W", 10, 0, y)), "Y", 1, 1)
	placeIs(t, config("320", in("F", 10, 0), in("Y", 10, 0, y, y, m), in("W", 10, 0, m)), "M", 1, 2)
}

func TestPlaceOfWrongClasses(t *testing.T) {
	for _, code := range []string{"", "y", "YY", "\x00", "\xff"} {
		placeIs(t, config("", in("F", -1, -1, class("Y", -1)), in("F", 0, 0, class("Y", 0), class(code, 0), class(code, 0))), code, 1, 1)
	}
	// More cabins and classes than are allowed.
	many := config("320", make([]api.Cabin, 9)...)
	many.Cabins = append(many.Cabins, in("Y", 10, 0, append(make([]api.Class, 99), class("Y", 0))...))
	placeIs(t, many, "Y", 9, 99)
	placeIs(t, many, "", 9, 0)
}

// P12.2: Like

// likeIs fails if Like does not return this class.
func likeIs(t *testing.T, a, b api.Config, class, want string) {
	t.Helper()
	if s, ok := Like(a, b, class); s != want || !ok {
		t.Errorf("Like(%v, %v, %q) = %q, %t, not %q, true", a, b, class, s, ok, want)
	}
}

// noLike fails if Like finds a class.
func noLike(t *testing.T, a, b api.Config, class string) {
	t.Helper()
	if s, ok := Like(a, b, class); s != "" || ok {
		t.Errorf("Like(%v, %v, %q) = %q, %t, not false", a, b, class, s, ok)
	}
}

func TestLikeOfExample(t *testing.T) {
	likeIs(t, jet(), small(), "M", "B")
	likeIs(t, jet(), small(), "F", "B")
	likeIs(t, jet(), small(), "Y", "Y")
	likeIs(t, small(), jet(), "B", "F")
}

func TestLikeOfClassOfBoth(t *testing.T) {
	for _, class := range []string{"F", "Y", "M"} {
		likeIs(t, jet(), jet(), class, class)
	}
	// In another cabin, at another rank, and where it occurs twice.
	b := config("321", in("Y", 10, 0, class("M", 0), class("Y", 0)), in("C", 10, 0), in("W", 10, 0, class("F", 0), class("B", 0), class("F", 0)))
	for _, class := range []string{"F", "Y", "M"} {
		likeIs(t, jet(), b, class, class)
		likeIs(t, b, jet(), class, class)
	}
	likeIs(t, b, b, "B", "B")
}

func TestLikeOfCabins(t *testing.T) {
	a := config("777", in("F", 4, 0, class("F", 0), class("A", 0)), in("C", 4, 0, class("C", 0), class("D", 0)), in("W", 4, 0, class("W", 0)), in("Y", 4, 0, class("Y", 0), class("M", 0)))
	b := []api.Cabin{in("P", 4, 0, class("P", 0), class("Q", 0)), in("R", 4, 0, class("R", 0)), in("S", 4, 0, class("S", 0), class("T", 0), class("U", 0)), in("V", 4, 0, class("V", 0), class("X", 0)), in("Z", 4, 0, class("Z", 0))}
	for _, c := range []struct {
		cabins int
		want   []string // for the classes of the cabins of a
	}{
		{1, list("Q", "Q", "Q", "Q")},
		{2, list("Q", "R", "R", "R")},
		{3, list("Q", "R", "U", "U")},
		{4, list("Q", "R", "U", "X")},
		{5, list("Q", "R", "U", "X")},
	} {
		for i, cabin := range a.Cabins {
			for _, class := range cabin.Classes {
				likeIs(t, a, config("320", b[:c.cabins]...), class.Code, c.want[i])
			}
		}
	}
	// A class that occurs twice is in the first of its cabins.
	twice := config("777", in("F", 4, 0, class("F", 0)), in("C", 4, 0, class("C", 0), class("K", 0)), in("W", 4, 0, class("K", 0)))
	likeIs(t, twice, config("320", b...), "K", "R")
}

func TestLikeWithoutClass(t *testing.T) {
	for _, class := range []string{"", "Q", "B", "f", "FY", "F ", "\x00"} {
		noLike(t, jet(), small(), class)
		noLike(t, jet(), config("320"), class)
		noLike(t, config("777"), small(), class)
		noLike(t, config("777", in("F", 4, 0)), small(), class)
		noLike(t, api.Config{}, api.Config{}, class)
	}
	// What only the other one has does not count.
	noLike(t, jet(), config("320", in("Q", 4, 0, class("Q", 0))), "Q")
	noLike(t, config("777"), jet(), "F")
	// The other one has no cabins, or no classes where the class is looked for.
	for _, class := range []string{"F", "Y", "M"} {
		noLike(t, jet(), config("320"), class)
		noLike(t, jet(), api.Config{Equip: "320", Cabins: []api.Cabin{}}, class)
		noLike(t, jet(), config("320", in("Q", 4, 0)), class)
		noLike(t, jet(), config("320", in("Q", 4, 0), in("R", 4, 0)), class)
	}
	b := config("320", in("P", 4, 0, class("P", 0)), in("Q", 4, 0), in("R", 4, 0, class("R", 0)))
	likeIs(t, jet(), b, "F", "P")
	noLike(t, jet(), b, "Y")
	noLike(t, jet(), b, "M")
	likeIs(t, jet(), config("320", b.Cabins[1:]...), "M", "R")
	noLike(t, jet(), config("320", b.Cabins[1:]...), "F")
	noLike(t, jet(), config("320", b.Cabins[:2]...), "M")
	noLike(t, config("777", jet().Cabins[0], in("C", 1, 0), in("Y", 1, 0, class("Y", 0))), config("320", b.Cabins[:2]...), "Y")
	// But the class itself is found in any cabin.
	b.Cabins[2].Classes = append(b.Cabins[2].Classes, class("M", 0))
	likeIs(t, jet(), b, "M", "M")
}

func TestLikeOfWrongClasses(t *testing.T) {
	bad := config("", in("", 0, 0, class("", 0), class("y", 0)), in("", 0, 0, class("YY", -1), class("", 5)))
	for _, class := range []string{"", "y", "YY"} {
		likeIs(t, bad, bad, class, class)
	}
	noLike(t, jet(), bad, "")
	likeIs(t, bad, jet(), "", "F")
	likeIs(t, bad, jet(), "YY", "M")
	// The class that takes the place may have any code.
	likeIs(t, jet(), bad, "F", "y")
	likeIs(t, jet(), bad, "Y", "")
}

// plans returns configurations with all lists of up to three cabins of a set.
func plans() []api.Config {
	cabins := list(in("A", 1, 0), in("B", 1, 0, class("Y", 0)), in("C", 1, 0, class("M", 0), class("Y", 0)), in("D", 1, 0, class("", 0)), in("E", 1, 0, class("F", 0), class("M", 0), class("F", 0)))
	var l []api.Config
	each(cabins, 3, func(c []api.Cabin) { l = append(l, config("320", c...)) })
	return l
}

// spot is where a class is.
type spot struct {
	cabin, rank int
	code        string
}

// spots returns where the classes of a configuration are, in order.
func spots(c api.Config) []spot {
	var l []spot
	for i, cabin := range c.Cabins {
		for k, class := range cabin.Classes {
			l = append(l, spot{i, k, class.Code})
		}
	}
	return l
}

// place and like return what Place and Like return, by the definition.
func place(c api.Config, class string) (int, int, bool) {
	for _, s := range spots(c) {
		if s.code == class {
			return s.cabin, s.rank, true
		}
	}
	return 0, 0, false
}

func like(a, b api.Config, class string) (string, bool) {
	i, _, ok := place(a, class)
	if !ok {
		return "", false
	}
	if _, _, ok := place(b, class); ok {
		return class, true
	}
	if len(b.Cabins) <= i {
		i = len(b.Cabins) - 1
	}
	last, found := "", false
	for _, s := range spots(b) {
		if s.cabin == i {
			last, found = s.code, true
		}
	}
	return last, found
}

func TestPlaceAndLikeAreAsDefined(t *testing.T) {
	all := plans()
	for _, a := range all {
		for _, class := range []string{"Y", "M", "F", "", "Q"} {
			i, k, ok := Place(a, class)
			if wantI, wantK, want := place(a, class); i != wantI || k != wantK || ok != want {
				t.Fatalf("Place(%v, %q) = %d, %d, %t, not %d, %d, %t", a, class, i, k, ok, wantI, wantK, want)
			}
			for _, b := range all {
				got, ok := Like(a, b, class)
				if want, found := like(a, b, class); got != want || ok != found {
					t.Fatalf("Like(%v, %v, %q) = %q, %t, not %q, %t", a, b, class, got, ok, want, found)
				}
			}
		}
	}
}

// P12.3

// limitsAre fails if Authorized is not the first number, or Limits not the others.
func limitsAre(t *testing.T, c api.Cabin, authorized int, limits ...int) {
	t.Helper()
	if n := Authorized(c); n != authorized {
		t.Errorf("Authorized(%v) = %d, not %d", c, n, authorized)
	}
	if l := Limits(c); !slices.Equal(l, limits) {
		t.Errorf("Limits(%v) = %v, not %v", c, l, limits)
	}
}

func TestLimitsOfExamples(t *testing.T) {
	limitsAre(t, in("Y", 10, 1, class("Y", 3), class("M", 5)), 11, 11, 8)
	limitsAre(t, in("Y", 10, 1, class("Y", 3), class("M", 3)), 11, 11, 8)
}

func TestLimits(t *testing.T) {
	// Without classes, and with one, whose Protect is kept for nobody else.
	limitsAre(t, in("Y", 10, 1), 11)
	limitsAre(t, protects(10, 1, 0), 11, 11)
	limitsAre(t, protects(10, 1, 5), 11, 11)
	limitsAre(t, protects(10, 1, 11), 11, 11)
	// The Protect of the last class counts for none; where it is the authorized level, nothing is left.
	limitsAre(t, protects(10, 1, 0, 11), 11, 11, 11)
	limitsAre(t, protects(10, 1, 11, 11), 11, 11, 0)
	limitsAre(t, protects(10, 0, 9, 10, 10, 10), 10, 10, 1, 0, 0)
	limitsAre(t, protects(10, 1, 0, 0, 0), 11, 11, 11, 11)
	limitsAre(t, protects(10, 1, 2, 2, 5, 7, 7, 11), 11, 11, 9, 9, 6, 4, 4)
	limitsAre(t, protects(1, 0, 0, 1), 1, 1, 1)
	limitsAre(t, protects(1, 999, 1, 1000), 1000, 1000, 999)
	limitsAre(t, protects(999, 0, 998, 999, 999), 999, 999, 1, 0)
	limitsAre(t, protects(999, 999, 1000, 1998, 1998), 1998, 1998, 998, 0)
	all := in("Y", 26, 0, codes(26)...)
	want := list(26)
	for i := range all.Classes {
		all.Classes[i].Protect = i + 1
		want = append(want, 26-i-1)
	}
	limitsAre(t, all, 26, want[:26]...)
}

// rightCabins calls f with all right cabins of up to 5 authorized seats and up to 4 classes, and with many greater ones.
func rightCabins(f func(c api.Cabin)) {
	for seats := 1; seats <= 3; seats++ {
		for over := range 3 {
			each(list(0, 1, 2, 3, 4, 5), 4, func(l []int) {
				c := protects(seats, over, l...)
				if len(Check(list(config("320", c)))) == 0 {
					f(c)
				}
			})
		}
	}
	next := numbers(2)
	for range 3000 {
		c := protects(1+next(999), next(1000), make([]int, 1+next(26))...)
		for i := range c.Classes {
			c.Classes[i].Protect = next(c.Seats + c.Over + 1)
		}
		slices.SortFunc(c.Classes, func(a, b api.Class) int { return a.Protect - b.Protect })
		f(c)
	}
}

func TestLimitsAreAsDefined(t *testing.T) {
	n := 0
	rightCabins(func(c api.Cabin) {
		n++
		if x := Check(list(config("320", c))); len(x) > 0 {
			t.Fatalf("the cabin %v is not right: %v", c, x)
		}
		want := list(c.Seats + c.Over)
		for _, class := range c.Classes[:len(c.Classes)-1] {
			want = append(want, c.Seats+c.Over-class.Protect)
		}
		l := Limits(c)
		if Authorized(c) != want[0] || !slices.Equal(l, want) {
			t.Fatalf("Authorized and Limits(%v) = %d, %v, not %d, %v", c, Authorized(c), l, want[0], want)
		}
		for i, limit := range l {
			if limit < 0 || i > 0 && limit > l[i-1] {
				t.Fatalf("Limits(%v) = %v", c, l)
			}
		}
	})
	if n < 3500 {
		t.Errorf("only %d cabins are right", n)
	}
}

func TestLimitsOfWrongCabins(t *testing.T) {
	// They are not promised for such cabins, but there is no panic (R1).
	for _, n := range outOf() {
		for _, over := range outOf() {
			Authorized(in("", n, over))
			if l := Limits(protects(n, over, over, n, 0, -1)); len(l) != 4 {
				t.Errorf("there are %d limits", len(l))
			}
		}
	}
}

// All promises

// odd returns lists of configurations, right ones and others.
func odd() [][]api.Config {
	return [][]api.Config{
		nil, list(jet()), list(jet(), small()), list(small(), jet(), small()), list(config("320"), config("", oddCabins()...), jet()), list(config("777", oddCabins()[20:24]...)),
	}
}

// results calls all functions and returns what they return.
func results(l []api.Config) []any {
	all := []any{Check(l)}
	for _, equip := range []string{"777", "320", "", "330"} {
		a, ok := Find(l, equip)
		all = append(all, a, ok)
	}
	for _, a := range l {
		for _, class := range []string{"F", "Y", "M", "B", "Q", ""} {
			i, k, ok := Place(a, class)
			all = append(all, i, k, ok)
			for _, b := range l {
				s, ok := Like(a, b, class)
				all = append(all, s, ok)
			}
		}
		for _, c := range a.Cabins {
			all = append(all, Authorized(c), Limits(c))
		}
	}
	return all
}

// spare returns a copy of a list that has memory behind its end, which is a copy of its elements.
func spare[T any](l []T) []T { return append(slices.Clone(l), l...)[:len(l)] }

// copied returns a copy of configurations of which all lists are copied by a function.
func copied(l []api.Config, configs func([]api.Config) []api.Config, cabins func([]api.Cabin) []api.Cabin, classes func([]api.Class) []api.Class) []api.Config {
	l = configs(l)
	for i := range l {
		l[i].Cabins = cabins(l[i].Cabins)
		for k := range l[i].Cabins {
			l[i].Cabins[k].Classes = classes(l[i].Cabins[k].Classes)
		}
	}
	return l
}

// whole returns a copy of a list with the memory behind its end.
func whole[T any](l []T) []T { return slices.Clone(l[:cap(l)]) }

func memory(l []api.Config) []api.Config {
	return copied(l, whole[api.Config], whole[api.Cabin], whole[api.Class])
}

func TestArgumentsAreNotModified(t *testing.T) {
	for _, l := range odd() {
		l = copied(l, spare[api.Config], spare[api.Cabin], spare[api.Class])
		before := memory(l)
		results(l)
		if after := memory(l); !reflect.DeepEqual(before, after) {
			t.Fatalf("an argument was modified: %v, %v", before, after)
		}
	}
}

func TestResultsAreNewMemory(t *testing.T) {
	for _, l := range odd() {
		before, first := memory(l), results(l)
		for range 2 {
			clear(Check(l))
			for _, a := range l {
				c, _ := Find(l, a.Equip)
				for _, cabin := range c.Cabins {
					clear(cabin.Classes)
					clear(Limits(cabin))
				}
				clear(c.Cabins)
			}
		}
		if !reflect.DeepEqual(before, memory(l)) || !reflect.DeepEqual(first, results(l)) {
			t.Error("changing a result changed an argument or another result")
		}
	}
}

// Nor does one cabin of a result share memory with another one, where those of the argument do.
func TestCabinsOfResultsShareNoMemory(t *testing.T) {
	classes := codes(3)
	c, _ := Find(list(config("320", in("F", 10, 0, classes...), in("Y", 10, 0, classes...))), "320")
	c.Cabins[0].Classes[0].Code = "X"
	if c.Cabins[1].Classes[0].Code != "A" || classes[0].Code != "A" {
		t.Error("two cabins share their classes")
	}
}
