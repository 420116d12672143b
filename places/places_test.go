package places

import (
	"math"
	"reflect"
	"slices"
	"strconv"
	"strings"
	"testing"

	"airline/api"
	"airline/zone"
)

// airport returns an airport in the zone UTC, to write it shortly.
func airport(code, city, country string) api.Airport {
	return api.Airport{Code: code, City: city, Country: country}
}

// inZone returns an airport in a zone.
func inZone(a api.Airport, z api.Zone) api.Airport {
	a.Zone = z
	return a
}

// distance returns a distance, to write it shortly.
func distance(from, to string, miles int) api.Distance {
	return api.Distance{From: from, To: to, Miles: miles}
}

// list returns a list, to write it shortly.
func list[T any](l ...T) []T { return l }

// europe returns London with two airports, Paris, Rome, Berlin and Madrid with one each, and Oslo without distances. The city BER has an airport BBI, and the code BER is that of an airport of the city BRN.
func europe() api.Places {
	summer := api.Zone{Offset: 60, Shifts: []api.Shift{{At: 13801020, Offset: 120}, {At: 14103420, Offset: 60}}}
	return api.Places{
		Airports: []api.Airport{
			airport("LHR", "LON", "GB"), airport("LGW", "LON", "GB"), inZone(airport("CDG", "PAR", "FR"), summer), airport("FCO", "ROM", "IT"),
			airport("MAD", "MAD", "ES"), airport("OSL", "OSL", "NO"), airport("BBI", "BER", "DE"), airport("BER", "BRN", "CH"),
		},
		Distances: []api.Distance{
			distance("LON", "PAR", 214), distance("PAR", "ROM", 688), distance("LON", "ROM", 1000), distance("MAD", "PAR", 642),
			distance("ROM", "BER", 735), distance("BRN", "ROM", 428), distance("BRN", "BER", 471),
		},
	}
}

// shifts returns shifts at equal distances.
func shifts(count, at, distance, offset int) []api.Shift {
	l := make([]api.Shift, count)
	for i := range l {
		l[i] = api.Shift{At: at + i*distance, Offset: offset}
	}
	return l
}

// badZones returns zones that are not right, with each of their errors.
func badZones() []api.Zone {
	return []api.Zone{
		{Shifts: shifts(257, 0, 2880, 60)}, {Offset: 841}, {Offset: -841}, {Shifts: shifts(1, -1, 0, 60)}, {Shifts: shifts(1, api.MaxTime, 0, 60)},
		{Shifts: shifts(2, 0, 2879, 60)}, {Shifts: shifts(1, 0, 0, 841)}, {Offset: math.MinInt, Shifts: shifts(300, 0, 0, math.MaxInt)},
	}
}

// notUsable are lengths of distances that are not usable. Some are small in 32 bits.
func notUsable() []int {
	return []int{
		0, -1, -214, -19999, -20000, -20001, 20001, 20002, 40000, 1<<31 - 1, 1 << 31, 1 << 32, 1<<32 + 1, 1<<32 + 214, 1 << 62,
		-1 << 31, -1 << 32, -1<<32 + 214, math.MaxInt - 1, math.MaxInt, math.MinInt, math.MinInt + 1,
	}
}

// badCodes are texts that are not codes of airports or cities.
func badCodes() []string {
	return []string{
		"", "L", "LO", "LOND", "lon", "Lon", "LOn", "lON", "L0N", "LO1", "123", " LO", "LO ", "L N", "LON ", " LON", "LON\x00", "L\x00N", "ÄÖ", "LÖ", "ÄÖÜ", "@AZ", "A[Z", "\xff\xff\xff",
		strings.Repeat("LON", 1000),
	}
}

// badCountries are texts that are not countries.
func badCountries() []string {
	return []string{"", "G", "GBR", "gb", "Gb", "gB", "G1", "1G", "12", " G", "G ", "GB ", " GB", "Ä", "@A", "Z[", "\xff\xff", strings.Repeat("GB", 1000)}
}

// faults returns the violations that are written like "6 airport 1".
func faults(l ...string) []api.Fault {
	var f []api.Fault
	for _, s := range l {
		number, at, _ := strings.Cut(s, " ")
		n, _ := strconv.Atoi(number)
		f = append(f, api.Fault{Err: api.Errno(n), At: at})
	}
	return f
}

// checkIs fails if Check does not return these violations, in this order.
func checkIs(t *testing.T, p api.Places, want ...string) {
	t.Helper()
	if got := Check(p); !slices.Equal(got, faults(want...)) {
		t.Errorf("Check(%v) = %v, not %v", p, got, want)
	}
}

// each calls f with all lists of up to a number of elements of a set.
func each[T any](set []T, most int, f func(l []T)) {
	var grow func(l []T)
	grow = func(l []T) {
		f(l)
		if len(l) == most {
			return
		}
		for _, x := range set {
			grow(append(slices.Clone(l), x))
		}
	}
	grow(nil)
}

// P6.1

func TestCheckOfRightPlaces(t *testing.T) {
	checkIs(t, europe())
	checkIs(t, api.Places{})
	checkIs(t, api.Places{Airports: []api.Airport{}, Distances: []api.Distance{}})
	checkIs(t, api.Places{Airports: list(airport("LHR", "LON", "GB"))})
	checkIs(t, api.Places{Airports: list(airport("LHR", "LON", "GB"), airport("LGW", "LON", "GB"))})
	checkIs(t, api.Places{Airports: list(airport("OSL", "OSL", "NO"), airport("ZZZ", "AAA", "ZA"), airport("AAA", "ZZZ", "AZ"))})
	// Distances may name cities whose airports have any index, and the edges of the lengths are usable.
	checkIs(t, api.Places{
		Airports:  list(airport("LHR", "LON", "GB"), airport("CDG", "PAR", "FR"), airport("FCO", "ROM", "IT")),
		Distances: list(distance("ROM", "LON", 1), distance("PAR", "ROM", 20000), distance("LON", "PAR", 19999)),
	})
	// Each edge of a right zone.
	for _, z := range []api.Zone{{Offset: -840}, {Offset: 840}, {Shifts: shifts(256, 0, 2880, 840)}, {Shifts: shifts(1, api.MaxTime-1, 0, -840)}} {
		checkIs(t, api.Places{Airports: list(inZone(airport("LHR", "LON", "GB"), z))})
	}
}

func TestCheckOfAirports(t *testing.T) {
	lhr := airport("LHR", "LON", "GB")
	for _, c := range []struct {
		l    []api.Airport
		want []string
	}{
		{list(api.Airport{}), list("5 airport 0")},
		{list(lhr, airport("lhr", "PAR", "FR")), list("5 airport 1")},
		// More than one text of an airport that is not right is one violation.
		{list(airport("", "LON", "")), list("5 airport 0")}, {list(airport("L", "L", "L")), list("5 airport 0")},
		// The form of codes of airports, cities and countries is not the same.
		{list(airport("LH", "LON", "GB")), list("5 airport 0")}, {list(airport("LHR", "LO", "GB")), list("5 airport 0")}, {list(airport("LHR", "LON", "GBR")), list("5 airport 0")},
		// The same code twice and three times, in one city and in several ones.
		{list(lhr, lhr), list("6 airport 1")}, {list(lhr, lhr, lhr), list("6 airport 1", "6 airport 2")}, {list(lhr, airport("LGW", "LON", "GB"), lhr), list("6 airport 2")},
		{list(lhr, airport("LHR", "PAR", "FR"), airport("LHR", "ROM", "IT")), list("6 airport 1", "6 airport 2")},
		{list(api.Airport{}, api.Airport{}), list("5 airport 0", "5 airport 1", "6 airport 1")},
		// A code and the city of another airport are not the same code.
		{list(airport("LON", "PAR", "FR"), lhr, airport("PAR", "LON", "GB")), nil},
		// A city in two countries, and in three.
		{list(lhr, airport("LGW", "LON", "FR")), list("8 airport 1")}, {list(lhr, airport("LGW", "LON", "FR"), airport("STN", "LON", "GB")), list("8 airport 1", "8 airport 2")},
		{list(lhr, airport("LGW", "LON", "FR"), airport("STN", "LON", "FR")), list("8 airport 1", "8 airport 2")},
		{list(lhr, airport("LGW", "LON", "GB"), airport("STN", "LON", "FR")), list("8 airport 2")},
		{list(lhr, airport("LGW", "LON", "FR"), airport("STN", "LON", "IT"), airport("LTN", "LON", "GB")), list("8 airport 1", "8 airport 2", "8 airport 3")},
		{list(airport("CDG", "PAR", "FR"), lhr, airport("ORY", "PAR", "FR"), airport("LGW", "LON", "FR"), airport("LBG", "PAR", "FR")), list("8 airport 3")},
		{list(airport("LHR", "LON", ""), airport("LGW", "LON", "GB")), list("5 airport 0", "8 airport 1")},
		{list(airport("LHR", "", "GB"), airport("LGW", "", "FR")), list("5 airport 0", "5 airport 1", "8 airport 1")},
		// The country of the city whose code is that of an airport.
		{list(airport("LON", "PAR", "FR"), lhr), nil},
		// Two violations, and all of them.
		{list(lhr, airport("LHR", "LON", "FR")), list("6 airport 1", "8 airport 1")}, {list(lhr, airport("LHR", "LON", "fr")), list("5 airport 1", "6 airport 1", "8 airport 1")},
		{list(lhr, inZone(airport("LHR", "LON", "fr"), api.Zone{Offset: 841})), list("5 airport 1", "6 airport 1", "8 airport 1", "2 airport 1")},
		{list(lhr, inZone(airport("LHR", "LON", "F"), api.Zone{Shifts: shifts(257, 0, 2880, 0)})), list("5 airport 1", "6 airport 1", "8 airport 1", "4 airport 1")},
		{list(lhr, inZone(lhr, api.Zone{Shifts: shifts(1, -1, 0, 0)})), list("6 airport 1", "13 airport 1")},
		{list(lhr, inZone(airport("LGW", "LON", "IT"), api.Zone{Offset: -841})), list("8 airport 1", "2 airport 1")},
		{list(inZone(airport("LHR", "", "GB"), api.Zone{Offset: -841})), list("5 airport 0", "2 airport 0")},
		// The second airport has all violations, and then those of the third one follow.
		{
			list(lhr, inZone(airport("LHR", "LON", ""), api.Zone{Offset: 841}), inZone(airport("LGW", "LON", "GB"), api.Zone{Offset: 841})),
			list("5 airport 1", "6 airport 1", "8 airport 1", "2 airport 1", "8 airport 2", "2 airport 2"),
		},
	} {
		checkIs(t, api.Places{Airports: c.l}, c.want...)
	}
}

func TestCheckOfCodes(t *testing.T) {
	for _, s := range badCodes() {
		checkIs(t, api.Places{Airports: list(airport(s, "LON", "GB"))}, "5 airport 0")
		checkIs(t, api.Places{Airports: list(airport("LHR", s, "GB"))}, "5 airport 0")
		checkIs(t, api.Places{Airports: list(airport(s, s, s))}, "5 airport 0")
	}
	for _, s := range badCountries() {
		checkIs(t, api.Places{Airports: list(airport("LHR", "LON", s))}, "5 airport 0")
	}
}

func TestCheckOfZones(t *testing.T) {
	found := map[api.Errno]bool{}
	for _, z := range badZones() {
		e := zone.Check(z)
		found[e] = true
		number := strconv.Itoa(int(e))
		checkIs(t, api.Places{Airports: list(inZone(airport("LHR", "LON", "GB"), z))}, number+" airport 0")
		checkIs(t, api.Places{Airports: list(airport("LHR", "LON", "GB"), inZone(airport("CDG", "PAR", "FR"), z))}, number+" airport 1")
	}
	if len(found) != 3 || found[api.OK] {
		t.Errorf("the errors of zones are %v", found)
	}
}

func TestCheckOfDistances(t *testing.T) {
	cities := list(airport("LHR", "LON", "GB"), airport("CDG", "PAR", "FR"), airport("FCO", "ROM", "IT"), airport("PAR", "XXX", "FR"))
	for _, c := range []struct {
		l    []api.Distance
		want []string
	}{
		{list(api.Distance{}), list("14 distance 0", "2 distance 0")},
		// Cities that are not known: of neither end, of one, of both; the code of an airport is not known as a city.
		{list(distance("LON", "NYC", 3458)), list("14 distance 0")}, {list(distance("NYC", "LON", 3458)), list("14 distance 0")}, {list(distance("NYC", "BOS", 190)), list("14 distance 0")},
		{list(distance("LHR", "CDG", 214)), list("14 distance 0")}, {list(distance("LHR", "PAR", 214)), list("14 distance 0")}, {list(distance("LON", "", 214)), list("14 distance 0")},
		{list(distance("LON", "lon", 214)), list("14 distance 0")}, {list(distance("LON", "XXX", 214)), nil},
		// The same cities twice and three times, in both orders.
		{list(distance("LON", "PAR", 214), distance("LON", "PAR", 214)), list("6 distance 1")}, {list(distance("LON", "PAR", 214), distance("PAR", "LON", 215)), list("6 distance 1")},
		{list(distance("PAR", "LON", 214), distance("LON", "PAR", 214)), list("6 distance 1")},
		{list(distance("PAR", "LON", 214), distance("ROM", "PAR", 688), distance("LON", "PAR", 214), distance("PAR", "LON", 1)), list("6 distance 2", "6 distance 3")},
		{list(distance("LON", "PAR", 214), distance("PAR", "ROM", 688), distance("LON", "ROM", 902)), nil},
		{list(distance("NYC", "BOS", 190), distance("BOS", "NYC", 190)), list("14 distance 0", "14 distance 1", "6 distance 1")},
		// Texts that are the same one after the other are not the same cities.
		{list(distance("AB", "C", 5), distance("A", "BC", 5)), list("14 distance 0", "14 distance 1")},
		// A city and itself.
		{list(distance("LON", "LON", 214)), list("2 distance 0")}, {list(distance("LON", "LON", 0)), list("2 distance 0")}, {list(distance("LON", "LON", 0), distance("LON", "LON", 7)), list("2 distance 0", "6 distance 1", "2 distance 1")},
		{list(distance("LON", "PAR", 214), distance("LON", "LON", 1), distance("PAR", "PAR", 1)), list("2 distance 1", "2 distance 2")},
		// Two violations, and all of them.
		{list(distance("LON", "NYC", 0)), list("14 distance 0", "2 distance 0")}, {list(distance("NYC", "NYC", 5)), list("14 distance 0", "2 distance 0")},
		{list(distance("LON", "PAR", 214), distance("PAR", "LON", 20001)), list("6 distance 1", "2 distance 1")},
		{list(distance("LON", "NYC", -1), distance("NYC", "LON", -1)), list("14 distance 0", "2 distance 0", "14 distance 1", "6 distance 1", "2 distance 1")},
		{list(distance("NYC", "NYC", 0), distance("NYC", "NYC", 0)), list("14 distance 0", "2 distance 0", "14 distance 1", "6 distance 1", "2 distance 1")},
	} {
		checkIs(t, api.Places{Airports: cities, Distances: c.l}, c.want...)
	}
	for _, miles := range notUsable() {
		checkIs(t, api.Places{Airports: cities, Distances: list(distance("LON", "PAR", miles))}, "2 distance 0")
		checkIs(t, api.Places{Airports: cities, Distances: list(distance("LON", "LON", miles))}, "2 distance 0")
	}
	for _, miles := range []int{1, 2, 214, 19999, 20000} {
		checkIs(t, api.Places{Airports: cities, Distances: list(distance("LON", "PAR", miles))})
	}
	// No city is known, or only the empty one.
	checkIs(t, api.Places{Distances: list(distance("LON", "PAR", 214))}, "14 distance 0")
	checkIs(t, api.Places{Airports: list(airport("LHR", "", "GB")), Distances: list(distance("", "", 5))}, "5 airport 0", "2 distance 0")
	checkIs(t, api.Places{Airports: list(airport("LHR", "", "GB"), airport("CDG", "par", "FR")), Distances: list(distance("", "par", 5))}, "5 airport 0", "5 airport 1")
}

func TestCheckOfAirportsAndDistances(t *testing.T) {
	p := europe()
	p.Airports[3] = airport("LGW", "LON", "IT")
	p.Airports[0].Zone.Offset = 900
	p.Distances[6].Miles = 0
	p.Distances = append(p.Distances, distance("PAR", "LON", 214))
	// Rome is not a city any more.
	checkIs(t, p, "2 airport 0", "6 airport 3", "8 airport 3", "14 distance 1", "14 distance 2", "14 distance 4", "14 distance 5", "2 distance 6", "6 distance 7")
}

func TestCheckOfManyElements(t *testing.T) {
	p := api.Places{}
	var want []string
	for i := range 2000 {
		p.Airports = append(p.Airports, airport("LHR", "LON", "gb"))
		p.Distances = append(p.Distances, distance("LON", "lon", 5))
		at := " airport " + strconv.Itoa(i)
		want = append(want, "5"+at)
		if i > 0 {
			want = append(want, "6"+at)
		}
	}
	for i := range p.Distances {
		at := " distance " + strconv.Itoa(i)
		want = append(want, "14"+at)
		if i > 0 {
			want = append(want, "6"+at)
		}
	}
	if got := Check(p); !slices.Equal(got, faults(want...)) {
		t.Errorf("Check of %d airports and distances returns %d violations, not %d", len(p.Airports), len(got), len(want))
	}
}

// checkByDefinition returns the violations, rule by rule as the chapter says them.
func checkByDefinition(p api.Places) []api.Fault {
	var l []api.Fault
	add := func(violated bool, e api.Errno, kind string, i int) {
		if violated {
			l = append(l, api.Fault{Err: e, At: kind + " " + strconv.Itoa(i)})
		}
	}
	for i, a := range p.Airports {
		twice, kind := false, false
		for _, b := range p.Airports[:i] {
			twice = twice || a.Code == b.Code
			kind = kind || a.City == b.City && a.Country != b.Country
		}
		add(!isCodeOf(a.Code, 3) || !isCodeOf(a.City, 3) || !isCodeOf(a.Country, 2), api.ErrName, "airport", i)
		add(twice, api.ErrTwice, "airport", i)
		add(kind, api.ErrKind, "airport", i)
		add(zone.Check(a.Zone) != api.OK, zone.Check(a.Zone), "airport", i)
	}
	for i, d := range p.Distances {
		from, to, twice := false, false, false
		for _, a := range p.Airports {
			from = from || a.City == d.From
			to = to || a.City == d.To
		}
		for _, b := range p.Distances[:i] {
			twice = twice || d.From == b.From && d.To == b.To || d.From == b.To && d.To == b.From
		}
		add(!from || !to, api.ErrPlace, "distance", i)
		add(twice, api.ErrTwice, "distance", i)
		add(d.Miles < 1 || d.Miles > 20000 || d.From == d.To, api.ErrArg, "distance", i)
	}
	return l
}

// isCodeOf reports whether a text has exactly n bytes, all of them capital letters.
func isCodeOf(s string, n int) bool {
	return len(s) == n && strings.Trim(s, "ABCDEFGHIJKLMNOPQRSTUVWXYZ") == ""
}

// product returns all triples of elements of three lists.
func product[A, B, C, T any](a []A, b []B, c []C, f func(a A, b B, c C) T) []T {
	var l []T
	for _, x := range a {
		for _, y := range b {
			for _, z := range c {
				l = append(l, f(x, y, z))
			}
		}
	}
	return l
}

// eachAirports calls f with all lists of up to three airports with a few codes, cities and countries.
func eachAirports(f func(l []api.Airport)) {
	each(product(list("AAA", "BBB", ""), list("AAA", "CCC", ""), list("GB", "FR", "gb"), airport), 3, f)
}

// eachDistances calls f with all lists of up to three distances of a few cities and lengths.
func eachDistances(f func(l []api.Distance)) {
	each(product(list("AAA", "CCC", "XXX"), list("AAA", "CCC", "XXX"), list(5, 0, 20001), distance), 3, f)
}

func TestCheckByTheDefinition(t *testing.T) {
	cities := list(airport("LHR", "AAA", "GB"), airport("BBB", "CCC", "GB"))
	eachAirports(func(l []api.Airport) {
		p := api.Places{Airports: l, Distances: list(distance("AAA", "CCC", 5), distance("", "CCC", 5), distance("XXX", "CCC", 5))}
		if got, want := Check(p), checkByDefinition(p); !slices.Equal(got, want) {
			t.Fatalf("Check(%v) = %v, not %v", p, got, want)
		}
	})
	eachDistances(func(l []api.Distance) {
		p := api.Places{Airports: cities, Distances: l}
		if got, want := Check(p), checkByDefinition(p); !slices.Equal(got, want) {
			t.Fatalf("Check(%v) = %v, not %v", p, got, want)
		}
	})
	for _, z := range append(badZones(), api.Zone{}, api.Zone{Offset: 60}) {
		for _, a := range []api.Airport{airport("LHR", "AAA", "GB"), airport("BBB", "AAA", "FR"), airport("", "CCC", "FR"), airport("BBB", "ZZZ", "FR")} {
			p := api.Places{Airports: append(slices.Clone(cities), inZone(a, z))}
			if got, want := Check(p), checkByDefinition(p); !slices.Equal(got, want) {
				t.Fatalf("Check(%v) = %v, not %v", p, got, want)
			}
		}
	}
}

// P6.2

func TestNames(t *testing.T) {
	p := europe()
	for _, c := range []struct {
		code          string
		index         int
		city, country string
	}{
		{"LHR", 0, "LON", "GB"}, {"LGW", 1, "LON", "GB"}, {"CDG", 2, "PAR", "FR"}, {"LON", -1, "LON", "GB"}, {"PAR", -1, "PAR", "FR"}, {"ROM", -1, "ROM", "IT"},
		{"MAD", 4, "MAD", "ES"}, {"OSL", 5, "OSL", "NO"}, {"BBI", 6, "BER", "DE"},
		// The code of an airport that is also a city stands for the city of the airport.
		{"BER", 7, "BRN", "CH"}, {"BRN", -1, "BRN", "CH"},
		// No airports and no cities.
		{"NYC", -1, "", ""}, {"", -1, "", ""}, {"lhr", -1, "", ""}, {"lon", -1, "", ""}, {"LH", -1, "", ""}, {"LHRX", -1, "", ""}, {" LHR", -1, "", ""}, {"LHR ", -1, "", ""}, {"GB", -1, "", ""},
		{"LHR\x00", -1, "", ""}, {"\xff", -1, "", ""}, {strings.Repeat("LHR", 10000), -1, "", ""},
	} {
		nameIs(t, p, c.code, c.index, c.city, c.country)
	}
}

// nameIs fails if the functions do not return the airport with this index (none if it is -1), this city and this country.
func nameIs(t *testing.T, p api.Places, code string, index int, city, country string) {
	t.Helper()
	var want api.Airport
	if index >= 0 {
		want = p.Airports[index]
	}
	if a, ok := Find(p, code); ok != (index >= 0) || !reflect.DeepEqual(a, want) {
		t.Errorf("Find(%v, %q) = %v, %v", p, code, a, ok)
	}
	if s := City(p, code); s != city {
		t.Errorf("City(%v, %q) = %q, not %q", p, code, s, city)
	}
	if s := Country(p, code); s != country {
		t.Errorf("Country(%v, %q) = %q, not %q", p, code, s, country)
	}
}

func TestNamesOfPlacesThatAreNotRight(t *testing.T) {
	for _, code := range append(badCodes(), "LHR", "LON") {
		nameIs(t, api.Places{}, code, -1, "", "")
		nameIs(t, api.Places{Distances: list(distance(code, "LON", 5))}, code, -1, "", "")
	}
	// The first of several airports, in other cities and countries.
	p := api.Places{Airports: list(airport("XXX", "YYY", "FR"), airport("LHR", "LON", "GB"), airport("LHR", "PAR", "IT"), airport("LGW", "LON", "ES"), airport("YYY", "LON", "DE"), airport("LHR", "ROM", "IT"))}
	nameIs(t, p, "LHR", 1, "LON", "GB")
	nameIs(t, p, "LON", -1, "LON", "GB")
	nameIs(t, p, "LGW", 3, "LON", "ES")
	nameIs(t, p, "PAR", -1, "PAR", "IT")
	nameIs(t, p, "YYY", 4, "LON", "DE")
	nameIs(t, p, "ROM", -1, "ROM", "IT")
	// Texts that are empty or not of the form are found as they are.
	p = api.Places{Airports: list(airport("LHR", "", "GB"), airport("CDG", "PAR", ""), airport("fco", "rom", "it"))}
	nameIs(t, p, "LHR", 0, "", "GB")
	nameIs(t, p, "CDG", 1, "PAR", "")
	nameIs(t, p, "PAR", -1, "PAR", "")
	nameIs(t, p, "fco", 2, "rom", "it")
	nameIs(t, p, "rom", -1, "rom", "it")
	nameIs(t, p, "FCO", -1, "", "")
	// The empty text is the city of LHR.
	nameIs(t, p, "", -1, "", "GB")
	// The empty text is the code of an airport.
	nameIs(t, api.Places{Airports: list(airport("LHR", "", "GB"), airport("", "LON", "FR"))}, "", 1, "LON", "FR")
	// Where the first airport has no city, a later one with the same code does not count.
	p = api.Places{Airports: list(airport("LHR", "", ""), airport("LHR", "LON", "GB"), airport("LGW", "LHR", "GB"))}
	nameIs(t, p, "LHR", 0, "", "")
	for _, code := range badCodes() {
		nameIs(t, api.Places{Airports: list(airport("LHR", "LON", "GB"), airport(code, "PAR", "FR"))}, code, 1, "PAR", "FR")
		nameIs(t, api.Places{Airports: list(airport("LHR", "LON", "GB"), airport("CDG", code, "FR"))}, code, -1, code, "FR")
	}
}

func TestNamesByTheDefinition(t *testing.T) {
	eachAirports(func(l []api.Airport) {
		p := api.Places{Airports: l}
		for _, code := range []string{"AAA", "BBB", "CCC", "", "GB"} {
			index, byCity := -1, -1
			for i := len(l) - 1; i >= 0; i-- {
				if l[i].Code == code {
					index = i
				}
				if l[i].City == code {
					byCity = i
				}
			}
			city, country := "", ""
			if index >= 0 {
				city, country = l[index].City, l[index].Country
			} else if byCity >= 0 {
				city, country = code, l[byCity].Country
			}
			nameIs(t, p, code, index, city, country)
			if t.Failed() {
				t.FailNow()
			}
		}
	})
}

func TestFindReturnsAnAirportOfItsOwn(t *testing.T) {
	p := europe()
	a, ok := Find(p, "CDG")
	if !ok || len(a.Zone.Shifts) != 2 {
		t.Fatalf("Find of CDG = %v, %v", a, ok)
	}
	a.Zone.Shifts[0].Offset = 7
	if !reflect.DeepEqual(p, europe()) {
		t.Errorf("the change of an airport that was found changed the places: %v", p)
	}
}

// P6.3

// milesIs fails if Miles does not return this, in both directions.
func milesIs(t *testing.T, p api.Places, a, b string, miles int, e api.Errno) {
	t.Helper()
	for _, ends := range [][2]string{{a, b}, {b, a}} {
		if n, err := Miles(p, ends[0], ends[1]); n != miles || err != e {
			t.Errorf("Miles(%v, %q, %q) = %d, %d, not %d, %d", p, ends[0], ends[1], n, err, miles, e)
		}
	}
}

func TestMiles(t *testing.T) {
	p := europe()
	for _, c := range []struct {
		a, b  string
		miles int
		e     api.Errno
	}{
		// Along one distance, two and three; the direct way is longer than the way round.
		{"LON", "PAR", 214, api.OK}, {"LON", "ROM", 902, api.OK}, {"LON", "MAD", 856, api.OK}, {"MAD", "BBI", 2065, api.OK}, {"MAD", "BRN", 1758, api.OK},
		// The direct way is shorter.
		{"BBI", "ROM", 735, api.OK}, {"BBI", "BRN", 471, api.OK},
		// Airports stand for their cities.
		{"LHR", "CDG", 214, api.OK}, {"LGW", "CDG", 214, api.OK}, {"LGW", "PAR", 214, api.OK}, {"FCO", "LGW", 902, api.OK},
		// BER is an airport of BRN, and also the city of BBI.
		{"BER", "FCO", 428, api.OK}, {"BER", "BBI", 471, api.OK}, {"BER", "BRN", 0, api.OK}, {"BER", "MAD", 1758, api.OK},
		// Within a city.
		{"LHR", "LGW", 0, api.OK}, {"LHR", "LON", 0, api.OK}, {"LON", "LON", 0, api.OK}, {"LHR", "LHR", 0, api.OK}, {"OSL", "OSL", 0, api.OK}, {"BER", "BER", 0, api.OK},
		// There is no way.
		{"LON", "OSL", 0, api.ErrNone}, {"OSL", "BER", 0, api.ErrNone},
		// Unknown codes.
		{"LON", "NYC", 0, api.ErrPlace}, {"OSL", "NYC", 0, api.ErrPlace}, {"NYC", "NYC", 0, api.ErrPlace}, {"NYC", "BOS", 0, api.ErrPlace},
		{"LON", "", 0, api.ErrPlace}, {"", "", 0, api.ErrPlace}, {"LON", "lon", 0, api.ErrPlace}, {"LON", "LON ", 0, api.ErrPlace}, {"LON", "GB", 0, api.ErrPlace},
	} {
		milesIs(t, p, c.a, c.b, c.miles, c.e)
	}
}

// letters returns an airport for each letter, whose code and city are three of it.
func letters(l string) []api.Airport {
	var airports []api.Airport
	for _, r := range l {
		airports = append(airports, airport(three(r), three(r), "GB"))
	}
	return airports
}

// three returns the code that is three times a letter.
func three(r rune) string { return strings.Repeat(string(r), 3) }

// net returns airports for these letters, and distances that are written like "AB 5" for the cities AAA and BBB.
func net(airports string, distances ...string) api.Places {
	p := api.Places{Airports: letters(airports)}
	for _, d := range distances {
		miles, _ := strconv.Atoi(d[3:])
		p.Distances = append(p.Distances, distance(three(rune(d[0])), three(rune(d[1])), miles))
	}
	return p
}

func TestMilesOfNets(t *testing.T) {
	for _, c := range []struct {
		p     api.Places
		miles int // from AAA to CCC
		e     api.Errno
	}{
		// The example of the chapter, and all orders of its distances and ends.
		{net("ABC", "AB 5", "BC 5", "AC 20"), 10, api.OK}, {net("ABC", "AC 20", "BC 5", "AB 5"), 10, api.OK}, {net("CBA", "CA 20", "CB 5", "BA 5"), 10, api.OK},
		{net("ABC", "BA 5", "BC 5", "CA 20"), 10, api.OK}, {net("ABC", "CB 5", "AC 20", "AB 5"), 10, api.OK},
		// The direct way is shorter, as long, and longer.
		{net("ABC", "AB 5", "BC 5", "AC 9"), 9, api.OK}, {net("ABC", "AB 5", "BC 5", "AC 10"), 10, api.OK}, {net("ABC", "AB 5", "BC 5", "AC 11"), 10, api.OK},
		// Two ways of the same length, and ways that begin shorter and end longer.
		{net("ABCD", "AB 5", "BC 7", "AD 6", "DC 6"), 12, api.OK}, {net("ABCD", "AB 1", "BC 9", "AD 6", "DC 3"), 9, api.OK}, {net("ABCD", "AB 6", "BC 3", "AD 1", "DC 9"), 9, api.OK},
		// A way along many distances, which is shorter than those along fewer.
		{net("ABCDEFG", "AB 1", "BD 1", "DE 1", "EF 1", "FG 1", "GC 1", "AC 7", "BC 6", "DC 5", "EC 4", "FC 3"), 6, api.OK},
		{net("ABCDEFG", "AC 7", "FC 3", "EC 4", "DC 5", "BC 6", "GC 1", "FG 1", "EF 1", "DE 1", "BD 1", "AB 1"), 6, api.OK},
		// A city that is first reached by a longer way.
		{net("ABCDE", "AB 10", "AD 1", "DB 1", "BC 10", "DE 1", "EB 7"), 12, api.OK},
		// The edges of the lengths.
		{net("ABC", "AC 1"), 1, api.OK}, {net("ABC", "AC 20000"), 20000, api.OK}, {net("ABC", "AB 20000", "BC 20000"), 40000, api.OK}, {net("ABC", "AB 1", "BC 1", "AC 20000"), 2, api.OK},
		// The same cities twice and three times: the shortest distance, in any order and direction.
		{net("ABC", "AC 5", "AC 7"), 5, api.OK}, {net("ABC", "AC 7", "AC 5"), 5, api.OK}, {net("ABC", "AC 7", "CA 5"), 5, api.OK}, {net("ABC", "CA 5", "AC 7", "CA 6"), 5, api.OK},
		{net("ABC", "AC 0", "AC 7"), 7, api.OK}, {net("ABC", "AC 7", "CA -5"), 7, api.OK},
		// A distance from a city to itself.
		{net("ABC", "AA 5", "AC 7", "CC 1"), 7, api.OK}, {net("ABC", "AA 5", "CC 1"), 0, api.ErrNone},
		// No way: no distances, those of others, and parts that are not joined.
		{net("AC"), 0, api.ErrNone}, {net("ABC", "AB 5"), 0, api.ErrNone}, {net("ABC", "BC 5"), 0, api.ErrNone}, {net("ABCD", "AB 5", "CD 5"), 0, api.ErrNone}, {net("ABCD", "BD 5"), 0, api.ErrNone},
		{net("ABCDEF", "AB 5", "BD 5", "DA 5", "EC 5", "FE 5", "CF 5"), 0, api.ErrNone},
		// A way by way of a city without airports, which is not known: the distance is usable nevertheless.
		{net("AC", "AX 5", "XC 5"), 10, api.OK}, {net("AC", "AX 5", "XC 5", "AC 11"), 10, api.OK}, {net("AC", "AX 5", "XC 5", "AC 9"), 9, api.OK},
		{net("AC", "AX 5", "XY 5", "YC 5"), 15, api.OK}, {net("AC", "AX 5", "YC 5"), 0, api.ErrNone},
		// Ends that are not known.
		{net("A", "AC 5"), 0, api.ErrPlace}, {net("C", "AC 5"), 0, api.ErrPlace}, {net("", "AC 5"), 0, api.ErrPlace}, {net("B", "AB 5", "BC 5"), 0, api.ErrPlace}, {api.Places{}, 0, api.ErrPlace},
	} {
		milesIs(t, c.p, "AAA", "CCC", c.miles, c.e)
	}
	for _, miles := range notUsable() {
		// A distance that is not usable on the only way, or beside a longer one, or beside a shorter one.
		for _, c := range []struct {
			p     api.Places
			miles int
			e     api.Errno
		}{{net("ABC"), 0, api.ErrNone}, {net("ABC", "AB 9000", "BC 9000"), 18000, api.OK}, {net("ABC", "AC 1"), 1, api.OK}} {
			c.p.Distances = append(c.p.Distances, distance("AAA", "CCC", miles))
			milesIs(t, c.p, "AAA", "CCC", c.miles, c.e)
			c.p.Distances = append(c.p.Distances, distance("CCC", "AAA", miles), distance("AAA", "AAA", miles))
			milesIs(t, c.p, "AAA", "CCC", c.miles, c.e)
		}
		p := net("ABC", "AB 5")
		p.Distances = append(p.Distances, distance("BBB", "CCC", miles))
		milesIs(t, p, "AAA", "CCC", 0, api.ErrNone)
		milesIs(t, p, "AAA", "BBB", 5, api.OK)
		milesIs(t, p, "CCC", "CCC", 0, api.OK)
	}
}

func TestMilesOfPlacesThatAreNotRight(t *testing.T) {
	// The city of LHR is empty, and so is an end of distances.
	p := api.Places{
		Airports:  list(airport("LHR", "", "GB"), airport("CDG", "PAR", "FR"), airport("FCO", "ROM", "IT"), airport("LHR", "PAR", "FR")),
		Distances: list(distance("", "PAR", 5), distance("ROM", "", 6), distance("LHR", "ROM", 1)),
	}
	milesIs(t, p, "LHR", "CDG", 0, api.ErrPlace)
	milesIs(t, p, "LHR", "LHR", 0, api.ErrPlace)
	milesIs(t, p, "", "PAR", 0, api.ErrPlace)
	milesIs(t, p, "PAR", "ROM", 11, api.OK)
	// The empty text is the code of an airport.
	p.Airports = append(p.Airports, airport("", "ROM", "IT"))
	milesIs(t, p, "", "PAR", 11, api.OK)
	milesIs(t, p, "", "ROM", 0, api.OK)
	milesIs(t, p, "", "LHR", 0, api.ErrPlace)
	// Distances are between cities: the code of an airport is another end, even if the texts are the same.
	p = api.Places{
		Airports:  list(airport("LHR", "LON", "GB"), airport("LON", "PAR", "FR"), airport("FCO", "ROM", "IT")),
		Distances: list(distance("LHR", "ROM", 1), distance("LON", "ROM", 1000), distance("PAR", "ROM", 688)),
	}
	milesIs(t, p, "LHR", "FCO", 1000, api.OK)
	milesIs(t, p, "LON", "ROM", 688, api.OK)
	milesIs(t, p, "LHR", "LON", 1688, api.OK)
	// Codes that are not of the form, of the first of several airports.
	for _, code := range badCodes() {
		p := api.Places{Airports: list(airport(code, "PAR", "FR"), airport(code, "LON", "GB"), airport("FCO", "ROM", "IT")), Distances: list(distance("LON", "ROM", 1), distance("PAR", "ROM", 688))}
		milesIs(t, p, code, "FCO", 688, api.OK)
		milesIs(t, p, code, "LON", 689, api.OK)
		e := api.OK
		if code == "" {
			e = api.ErrPlace
		}
		p = api.Places{Airports: list(airport("FCO", code, "IT"))}
		milesIs(t, p, code, "FCO", 0, e)
	}
}

// tableByDefinition returns the lengths of the shortest ways among cities: -1 if there is none. It is the search of Floyd and Warshall: ways are joined in each city in turn.
func tableByDefinition(p api.Places, cities []string) [][]int {
	table := make([][]int, len(cities))
	for i := range table {
		table[i] = slices.Repeat([]int{-1}, len(cities))
		table[i][i] = 0
	}
	shorten := func(i, j, miles int) {
		if table[i][j] < 0 || miles < table[i][j] {
			table[i][j] = miles
		}
	}
	for _, d := range p.Distances {
		i, j := slices.Index(cities, d.From), slices.Index(cities, d.To)
		if d.Miles >= 1 && d.Miles <= 20000 {
			shorten(i, j, d.Miles)
			shorten(j, i, d.Miles)
		}
	}
	for k := range cities {
		for i := range cities {
			for j := range cities {
				if table[i][k] >= 0 && table[k][j] >= 0 {
					shorten(i, j, table[i][k]+table[k][j])
				}
			}
		}
	}
	return table
}

// eachNet calls f with places with the airports AAA to DDD: with all distances of a few lengths among these cities, and also with ways round by the city EEE, which has no airport.
func eachNet(f func(p api.Places)) {
	lengths := list(0, 1, 3, 20000)
	ends := list("AB", "AC", "AD", "BC", "BD", "CD")
	further := product(list("A", "B"), list(1, 20001), list("C", "D"), func(a string, miles int, b string) []string {
		return list(a+"E 1", "E"+b+" "+strconv.Itoa(miles))
	})
	for code := range 4096 {
		var l []string
		for i, pair := range ends {
			// Missing distances are those of the length 0, every second time.
			if miles := lengths[code>>(2*i)&3]; miles > 0 || i%2 == 0 {
				l = append(l, pair+" "+strconv.Itoa(miles))
			}
		}
		f(net("ABCD", l...))
		f(net("ABCD", append(l, further[code%len(further)]...)...))
	}
}

func TestMilesByTheDefinition(t *testing.T) {
	cities := list("AAA", "BBB", "CCC", "DDD", "EEE")
	found := [3]int{}
	eachNet(func(p api.Places) {
		table := tableByDefinition(p, cities)
		for i, a := range cities {
			for j, b := range cities {
				miles, e := table[i][j], api.OK
				switch {
				case a == "EEE" || b == "EEE":
					miles, e = 0, api.ErrPlace
					found[0]++
				case miles < 0:
					miles, e = 0, api.ErrNone
					found[1]++
				default:
					found[2]++
				}
				if n, err := Miles(p, a, b); n != miles || err != e {
					t.Fatalf("Miles(%v, %q, %q) = %d, %d, not %d, %d", p, a, b, n, err, miles, e)
				}
			}
		}
	})
	if slices.Contains(found[:], 0) {
		t.Errorf("%v ends are not known, not joined and joined", found)
	}
}

// wide returns a city for each cell of a square, whose distances follow a rule without order.
func wide(side int) (api.Places, []string) {
	var p api.Places
	var cities []string
	name := func(i int) string {
		return string([]byte{byte('A' + i/676), byte('A' + i/26%26), byte('A' + i%26)})
	}
	state := 12345
	miles := func() int {
		state = state * 1103515245 % (1 << 31)
		return (state>>8)%22000 - 1000
	}
	for i := range side * side {
		cities = append(cities, name(i))
		p.Airports = append(p.Airports, airport(name(i), name(i), "GB"))
		if i%side > 0 {
			p.Distances = append(p.Distances, distance(name(i), name(i-1), miles()))
		}
		if i >= side {
			p.Distances = append(p.Distances, distance(name(i-side), name(i), miles()))
		}
	}
	return p, cities
}

func TestMilesOfManyCities(t *testing.T) {
	p, cities := wide(9)
	table := tableByDefinition(p, cities)
	for i, a := range cities {
		for j, b := range cities {
			want, e := table[i][j], api.OK
			if want < 0 {
				want, e = 0, api.ErrNone
			}
			if n, err := Miles(p, a, b); n != want || err != e {
				t.Fatalf("Miles of %q and %q = %d, %d, not %d, %d", a, b, n, err, want, e)
			}
		}
	}
}

// chain returns many cities in a row, of which each one is 20000 miles from the next one.
func chain(count int) api.Places {
	p := api.Places{}
	for i := range count {
		city := "C" + strconv.Itoa(i)
		p.Airports = append(p.Airports, airport("A"+strconv.Itoa(i), city, "GB"))
		if i > 0 {
			p.Distances = append(p.Distances, distance("C"+strconv.Itoa(i-1), city, 20000))
		}
	}
	return p
}

func TestMilesOfLongWays(t *testing.T) {
	if n, e := Miles(chain(100000), "A0", "C99999"); n != 99999*20000 || e != api.OK {
		t.Errorf("Miles along 100000 cities = %d, %d", n, e)
	}
	p := chain(2000)
	// From the first 1000 cities, the one after the next is as far as the next one.
	for i := range 1000 {
		for j := range 3 {
			p.Distances = append(p.Distances, distance("C"+strconv.Itoa(i), "C"+strconv.Itoa(i+j), 20000))
		}
	}
	if n, e := Miles(p, "C0", "A1999"); n != (500+999)*20000 || e != api.OK {
		t.Errorf("Miles along 2000 cities, half of them in steps of two, = %d, %d", n, e)
	}
}

// known returns the codes of all airports and cities.
func known(p api.Places) []string {
	var l []string
	for _, a := range p.Airports {
		l = append(l, a.Code, a.City)
	}
	return l
}

func TestMilesAreTheSameInBothDirections(t *testing.T) {
	check := func(p api.Places) {
		l := append(known(p), "EEE", "", "NYC")
		for _, a := range l {
			for _, b := range l {
				there, e := Miles(p, a, b)
				back, err := Miles(p, b, a)
				if there != back || e != err {
					t.Fatalf("Miles(%v, %q, %q) = %d, %d, but %d, %d back", p, a, b, there, e, back, err)
				}
			}
		}
	}
	check(europe())
	n := 0
	eachNet(func(p api.Places) {
		// Enough of them.
		if n++; n%7 == 0 {
			check(p)
		}
	})
}

func TestMilesKeepToAThirdCity(t *testing.T) {
	shorter := 0
	check := func(p api.Places) {
		l := known(p)
		for _, a := range l {
			for _, b := range l {
				direct, e := Miles(p, a, b)
				for _, c := range l {
					first, e1 := Miles(p, a, c)
					second, e2 := Miles(p, c, b)
					if e1 != api.OK || e2 != api.OK {
						continue
					}
					if e != api.OK || direct > first+second {
						t.Fatalf("Miles(%v, %q, %q) = %d, %d, but %d and %d by way of %q", p, a, b, direct, e, first, second, c)
					}
					if direct < first+second {
						shorter++
					}
				}
			}
		}
	}
	check(europe())
	n := 0
	eachNet(func(p api.Places) {
		// Enough of them.
		if n++; n%13 == 0 {
			check(p)
		}
	})
	if shorter == 0 {
		t.Error("no way is shorter than one by way of a third city")
	}
}

// P6.4

// wayIs fails if Way does not return this.
func wayIs(t *testing.T, p api.Places, cities []string, miles int, e api.Errno) {
	t.Helper()
	if n, err := Way(p, cities); n != miles || err != e {
		t.Errorf("Way(%v, %q) = %d, %d, not %d, %d", p, cities, n, err, miles, e)
	}
}

func TestWay(t *testing.T) {
	for _, c := range []struct {
		cities []string
		miles  int
		e      api.Errno
	}{
		// No element and one, known or not.
		{nil, 0, api.OK}, {[]string{}, 0, api.OK}, {list("LON"), 0, api.OK}, {list("LHR"), 0, api.OK}, {list("OSL"), 0, api.OK}, {list("NYC"), 0, api.OK}, {list(""), 0, api.OK},
		// Two elements.
		{list("LON", "PAR"), 214, api.OK}, {list("LON", "ROM"), 902, api.OK}, {list("LHR", "LGW"), 0, api.OK}, {list("OSL", "OSL"), 0, api.OK}, {list("LON", "OSL"), 0, api.ErrNone},
		{list("LON", "NYC"), 0, api.ErrPlace}, {list("NYC", "LON"), 0, api.ErrPlace}, {list("", ""), 0, api.ErrPlace},
		// Three and more.
		{list("ROM", "LON", "PAR"), 1116, api.OK}, {list("LHR", "FCO", "LGW"), 1804, api.OK}, {list("LON", "LHR", "LGW", "LON"), 0, api.OK}, {list("LON", "PAR", "LON", "PAR", "LON"), 856, api.OK},
		{list("LHR", "PAR", "ROM", "MAD", "BBI", "BER"), 214 + 688 + 1330 + 2065 + 471, api.OK},
		// An error of one pair, at the beginning, in the middle and at the end.
		{list("OSL", "LON", "PAR", "ROM"), 0, api.ErrNone}, {list("LON", "OSL", "OSL", "ROM"), 0, api.ErrNone}, {list("LON", "PAR", "ROM", "OSL"), 0, api.ErrNone},
		{list("NYC", "LON", "PAR", "ROM"), 0, api.ErrPlace}, {list("LON", "PAR", "", "ROM"), 0, api.ErrPlace}, {list("LON", "PAR", "ROM", "rom"), 0, api.ErrPlace},
		// Two pairs with errors, of which the first one counts.
		{list("ROM", "OSL", "NYC"), 0, api.ErrNone}, {list("NYC", "OSL", "LON"), 0, api.ErrPlace}, {list("LON", "PAR", "OSL", "PAR", "NYC", "ROM"), 0, api.ErrNone},
		{list("LON", "PAR", "NYC", "PAR", "OSL", "ROM"), 0, api.ErrPlace}, {list("OSL", "LON", "NYC"), 0, api.ErrNone}, {list("LON", "NYC", "OSL"), 0, api.ErrPlace},
	} {
		wayIs(t, europe(), c.cities, c.miles, c.e)
	}
	wayIs(t, api.Places{}, nil, 0, api.OK)
	wayIs(t, api.Places{}, list("LON"), 0, api.OK)
	wayIs(t, api.Places{}, list("LON", "LON"), 0, api.ErrPlace)
	wayIs(t, net("ABC", "AB 20000", "BC 0"), list("AAA", "BBB", "AAA", "BBB"), 60000, api.OK)
	wayIs(t, net("ABC", "AB 20000", "BC 0"), list("AAA", "BBB", "CCC"), 0, api.ErrNone)
}

func TestWayOfManyElements(t *testing.T) {
	var cities []string
	for range 5000 {
		cities = append(cities, "LHR", "FCO")
	}
	wayIs(t, europe(), cities, 9999*902, api.OK)
	wayIs(t, europe(), append(cities, "OSL"), 0, api.ErrNone)
	wayIs(t, europe(), append(cities, "NYC", "OSL"), 0, api.ErrPlace)
}

func TestWayByTheDefinition(t *testing.T) {
	codes := list("LHR", "LON", "PAR", "FCO", "MAD", "OSL", "BER", "NYC", "")
	p := europe()
	found := map[api.Errno]int{}
	each(codes, 4, func(l []string) {
		miles, e := 0, api.OK
		for i := range len(l) - 1 {
			n, err := Miles(p, l[i], l[i+1])
			if err != api.OK {
				miles, e = 0, err
				break
			}
			miles += n
		}
		wayIs(t, p, l, miles, e)
		found[e]++
		if len(l) < 2 {
			return
		}
		if least, err := Miles(p, l[0], l[len(l)-1]); e == api.OK && (err != api.OK || miles < least) {
			t.Errorf("Way of %q = %d, but Miles of its ends = %d, %d", l, miles, least, err)
		}
	})
	if len(found) != 3 {
		t.Errorf("the errors of ways are %v", found)
	}
}

// All promises

// copyOf returns a copy of places that shares no memory with them.
func copyOf(p api.Places) api.Places {
	c := api.Places{Airports: slices.Clone(p.Airports), Distances: slices.Clone(p.Distances)}
	for i := range c.Airports {
		c.Airports[i].Zone.Shifts = slices.Clone(c.Airports[i].Zone.Shifts)
	}
	return c
}

// callAll calls all functions.
func callAll(p api.Places, cities []string) {
	Check(p)
	for _, a := range cities {
		Find(p, a)
		City(p, a)
		Country(p, a)
		for _, b := range cities {
			Miles(p, a, b)
		}
	}
	Way(p, cities)
}

// TestArgumentsAreNotModified also fails if a function panics or does not end for places that are not right.
func TestArgumentsAreNotModified(t *testing.T) {
	wrong := europe()
	wrong.Airports = append(wrong.Airports, wrong.Airports...)
	for _, z := range badZones() {
		wrong.Airports = append(wrong.Airports, inZone(airport("ZZZ", "ZZZ", "ZZ"), z))
	}
	for _, code := range badCodes() {
		wrong.Airports = append(wrong.Airports, airport(code, "LON", "GB"), airport("LHR", code, "GB"))
		wrong.Distances = append(wrong.Distances, distance(code, "LON", 5), distance("PAR", code, 7), distance(code, code, 1))
	}
	for _, miles := range notUsable() {
		wrong.Distances = append(wrong.Distances, distance("ROM", "LON", miles), distance("LON", "ZZZ", miles))
	}
	for _, p := range []api.Places{europe(), wrong, {}, {Airports: wrong.Airports}, {Distances: wrong.Distances}} {
		for _, cities := range [][]string{nil, {"LON"}, append(known(europe()), badCodes()...), {"ROM", "LON", "PAR", "OSL", "", "NYC", "ZZZ"}} {
			before, list := copyOf(p), slices.Clone(cities)
			callAll(p, cities)
			if !reflect.DeepEqual(p, before) {
				t.Errorf("the places %v became %v", before, p)
			}
			if !slices.Equal(cities, list) {
				t.Errorf("the list %q became %q", list, cities)
			}
		}
	}
}

// TestSpareMemoryIsNotModified fails if a function appends to a list that it was given.
func TestSpareMemoryIsNotModified(t *testing.T) {
	p := europe()
	airports, distances, cities := p.Airports, p.Distances, list("LON", "PAR", "ROM")
	p.Airports, p.Distances = airports[:3], distances[:2]
	callAll(p, cities[:2])
	if want := europe(); !reflect.DeepEqual(airports, want.Airports) || !reflect.DeepEqual(distances, want.Distances) || cities[2] != "ROM" {
		t.Errorf("the memory behind the lists became %v, %v, %q", airports, distances, cities)
	}
}

// TestResultsAreTheSameAgain fails if a result depends on anything but the arguments.
func TestResultsAreTheSameAgain(t *testing.T) {
	p, cities := wide(6)
	p.Airports = append(p.Airports, p.Airports[:9]...)
	p.Distances = append(p.Distances, p.Distances[:9]...)
	violations := Check(p)
	miles, e := Way(p, cities[:6])
	for range 20 {
		if again := Check(p); !slices.Equal(again, violations) {
			t.Fatalf("Check = %v, and then %v", violations, again)
		}
		if n, err := Way(p, cities[:6]); n != miles || err != e {
			t.Fatalf("Way = %d, %d, and then %d, %d", miles, e, n, err)
		}
	}
}
