package stock

import (
	"cmp"
	"fmt"
	"math"
	"slices"
	"strconv"
	"testing"

	"airline/api"
	"airline/cabin"
)

// list returns a list, to write it shortly; class, in and config return a class, a cabin and a configuration.
func list[T any](l ...T) []T { return l }

func class(code string, protect int) api.Class { return api.Class{Code: code, Protect: protect} }

func in(name string, seats, over int, classes ...api.Class) api.Cabin {
	return api.Cabin{Name: name, Seats: seats, Over: over, Classes: classes}
}

func config(equip string, cabins ...api.Cabin) api.Config {
	return api.Config{Equip: equip, Cabins: cabins}
}

// fleet returns right configurations: the one of the chapter, with the booking limits 11 and 8, its smaller one, one of two cabins, one of as many cabins as there may be, and one of a single class.
func fleet() []api.Config {
	return list(
		config("320", in("Y", 10, 1, class("Y", 3), class("M", 3))),
		config("319", in("Y", 6, 0, class("Y", 0), class("M", 0))),
		config("777", in("F", 4, 0, class("F", 0)), in("Y", 10, 2, class("Y", 2), class("B", 5), class("M", 5))),
		config("340", in("F", 2, 0, class("F", 0)), in("C", 3, 1, class("C", 1), class("D", 1)), in("W", 4, 0, class("M", 0)), in("Y", 6, 1, class("Y", 1), class("Q", 7))),
		config("100", in("Z", 3, 0, class("Z", 0))),
	)
}

// from returns a leg from an airport.
func from(airport string) api.LegId {
	return api.LegId{Carrier: "BA", Number: 2, Day: 9, From: airport}
}

// ids returns the legs about which inventories are asked: each one but the last differs in one field only from the first one.
func ids() []api.LegId {
	return list(
		from("LHR"),
		from("CDG"),
		api.LegId{Carrier: "AF", Number: 2, Day: 9, From: "LHR"},
		api.LegId{Carrier: "BA", Number: 3, Day: 9, From: "LHR"},
		api.LegId{Carrier: "BA", Number: 2, Day: 10, From: "LHR"},
		from("JFK"),
		api.LegId{},
	)
}

// classes returns the classes about which inventories are asked. The last three are in no configuration of fleet and mixed.
func classes() []string { return list("F", "C", "D", "Y", "B", "M", "Q", "Z", "X", "", "y") }

// numbers returns a source of numbers from 0 to n - 1 that look like chance.
func numbers(seed uint64) func(n int) int {
	return func(n int) int {
		seed = seed*6364136223846793005 + 1442695040888963407
		return int(seed >> 33 % uint64(n))
	}
}

// upTo calls f with all lists of up to a number of elements of a set.
func upTo[T any](set []T, most int, f func(l []T)) {
	f(nil)
	if most == 0 {
		return
	}
	for _, x := range set {
		upTo(set, most-1, func(l []T) { f(append([]T{x}, l...)) })
	}
}

// start returns an inventory without legs.
func start(t *testing.T, l []api.Config) *Stock {
	t.Helper()
	s, faults := New(l)
	if s == nil || len(faults) > 0 {
		t.Fatalf("New(%v) = %v, %v", l, s, faults)
	}
	return s
}

// inventory is a Stock, or the definition of one.
type inventory interface {
	Open(id api.LegId, equip string) api.Errno
	Close(id api.LegId) api.Errno
	Sell(ids []api.LegId, class string, n int) api.Errno
	Cancel(ids []api.LegId, class string, n int) api.Errno
	Resize(id api.LegId, equip string) api.Errno
	Left(id api.LegId, class string) int
	Free(id api.LegId, class string) int
	Counts(id api.LegId) []api.Count
	Excess(id api.LegId) int
	Equip(id api.LegId) (string, bool)
	Legs() []api.LegId
}

// call is a call that can change an inventory. Code is the class or the equipment; calls for one leg take the first one.
type call struct {
	kind string
	ids  []api.LegId
	code string
	n    int
}

func open(id api.LegId, equip string) call { return call{kind: "open", ids: list(id), code: equip} }

func shut(id api.LegId) call { return call{kind: "close", ids: list(id)} }

func resize(id api.LegId, equip string) call { return call{kind: "resize", ids: list(id), code: equip} }

func sell(class string, n int, ids ...api.LegId) call { return call{"sell", ids, class, n} }

func cancel(class string, n int, ids ...api.LegId) call { return call{"cancel", ids, class, n} }

func (c call) on(s inventory) api.Errno {
	switch c.kind {
	case "open":
		return s.Open(c.ids[0], c.code)
	case "close":
		return s.Close(c.ids[0])
	case "resize":
		return s.Resize(c.ids[0], c.code)
	case "sell":
		return s.Sell(c.ids, c.code, c.n)
	}
	return s.Cancel(c.ids, c.code, c.n)
}

// after returns an inventory of these configurations after calls, none of which may have an error.
func after(t *testing.T, l []api.Config, calls ...call) *Stock {
	t.Helper()
	s := start(t, l)
	for _, c := range calls {
		if e := c.on(s); e != api.OK {
			t.Fatalf("%v returns %d", c, e)
		}
	}
	return s
}

// answers returns what an inventory answers to all questions.
func answers(s inventory) string {
	var b []byte
	number := func(n int) { b = append(strconv.AppendInt(b, int64(n), 10), ' ') }
	for _, id := range ids() {
		equip, ok := s.Equip(id)
		b = append(strconv.AppendBool(append(b, equip...), ok), ' ')
		number(s.Excess(id))
		for _, x := range s.Counts(id) {
			b = append(b, x.Class...)
			number(x.Sold)
		}
		b = append(b, "left "...)
		for _, class := range classes() {
			number(s.Left(id, class))
			number(s.Free(id, class))
		}
	}
	return string(fmt.Append(b, s.Legs()))
}

// returns fails if a call does not return this error, or if it changes an answer together with an error.
func returns(t *testing.T, s *Stock, c call, want api.Errno) {
	t.Helper()
	before := answers(s)
	if e := c.on(s); e != want {
		t.Errorf("%v returns %d, not %d", c, e, want)
	}
	if l := answers(s); want != api.OK && l != before {
		t.Errorf("%v returns %d and changes\n%s to\n%s", c, want, before, l)
	}
}

// leftIs, freeIs, excessIs, countsAre, equipIs and legsAre fail if a question is not answered like this.
func leftIs(t *testing.T, s inventory, id api.LegId, class string, want int) {
	t.Helper()
	if n := s.Left(id, class); n != want {
		t.Errorf("Left(%v, %q) = %d, not %d", id, class, n, want)
	}
}

func freeIs(t *testing.T, s inventory, id api.LegId, class string, want int) {
	t.Helper()
	if n := s.Free(id, class); n != want {
		t.Errorf("Free(%v, %q) = %d, not %d", id, class, n, want)
	}
}

func excessIs(t *testing.T, s inventory, id api.LegId, want int) {
	t.Helper()
	if n := s.Excess(id); n != want {
		t.Errorf("Excess(%v) = %d, not %d", id, n, want)
	}
}

// The counts are written like "Y 4", in this order.
func countsAre(t *testing.T, s inventory, id api.LegId, want ...string) {
	t.Helper()
	got := []string{}
	for _, x := range s.Counts(id) {
		got = append(got, x.Class+" "+strconv.Itoa(x.Sold))
	}
	if !slices.Equal(got, want) {
		t.Errorf("Counts(%v) = %q, not %q", id, got, want)
	}
}

func equipIs(t *testing.T, s inventory, id api.LegId, want string, there bool) {
	t.Helper()
	if equip, ok := s.Equip(id); equip != want || ok != there {
		t.Errorf("Equip(%v) = %q, %t, not %q, %t", id, equip, ok, want, there)
	}
}

func legsAre(t *testing.T, s inventory, want ...api.LegId) {
	t.Helper()
	if l := s.Legs(); !slices.Equal(l, want) {
		t.Errorf("Legs() = %v, not %v", l, want)
	}
}

// The definitions of the chapter.

// defined is an inventory as it is described, and state a leg of it.
type defined struct {
	configs []api.Config
	legs    map[api.LegId]*state
}

type state struct {
	config api.Config
	sold   map[string]int
	closed bool
}

func define(l []api.Config) *defined { return &defined{l, map[api.LegId]*state{}} }

func (d *defined) copy() *defined {
	c := define(d.configs)
	for id, l := range d.legs {
		sold := map[string]int{}
		for class, n := range l.sold {
			sold[class] = n
		}
		c.legs[id] = &state{l.config, sold, l.closed}
	}
	return c
}

func (d *defined) equipment(equip string) (api.Config, bool) {
	for _, c := range d.configs {
		if c.Equip == equip {
			return c, true
		}
	}
	return api.Config{}, false
}

// place returns the cabin of a class of a configuration, the index of this cabin, and the rank of the class.
func place(c api.Config, class string) (api.Cabin, int, int, bool) {
	for i, x := range c.Cabins {
		for rank, y := range x.Classes {
			if y.Code == class {
				return x, i, rank, true
			}
		}
	}
	return api.Cabin{}, 0, 0, false
}

// limit returns the booking limit of a class of a cabin.
func limit(c api.Cabin, rank int) int {
	if rank == 0 {
		return c.Seats + c.Over
	}
	return c.Seats + c.Over - c.Classes[rank-1].Protect
}

// nested returns the seats sold in a class of a cabin and the ones after it.
func nested(c api.Cabin, sold map[string]int, rank int) int {
	n := 0
	for _, x := range c.Classes[rank:] {
		n += sold[x.Code]
	}
	return n
}

// crowded reports whether more than 9999 seats are sold in a class of a cabin.
func crowded(c api.Cabin, sold map[string]int) bool {
	return slices.ContainsFunc(c.Classes, func(x api.Class) bool { return sold[x.Code] > 9999 })
}

func (d *defined) Open(id api.LegId, equip string) api.Errno {
	if d.legs[id] != nil {
		return api.ErrTwice
	}
	c, ok := d.equipment(equip)
	if !ok {
		return api.ErrNone
	}
	d.legs[id] = &state{c, map[string]int{}, false}
	return api.OK
}

func (d *defined) Close(id api.LegId) api.Errno {
	switch {
	case d.legs[id] == nil:
		return api.ErrNone
	case d.legs[id].closed:
		return api.ErrState
	}
	d.legs[id].closed = true
	return api.OK
}

// some reports whether one of the legs is like this.
func (d *defined) some(ids []api.LegId, f func(id api.LegId, l *state) bool) bool {
	for _, id := range ids {
		if f(id, d.legs[id]) {
			return true
		}
	}
	return false
}

// act does what Sell and Cancel do; n is negative for Cancel.
func (d *defined) act(ids []api.LegId, class string, n int, sale bool) api.Errno {
	if n < 1 || len(ids) == 0 {
		return api.ErrArg
	}
	for i, id := range ids {
		if slices.Contains(ids[:i], id) {
			return api.ErrTwice
		}
	}
	switch {
	case d.some(ids, func(id api.LegId, l *state) bool { return l == nil }):
		return api.ErrNone
	case sale && d.some(ids, func(id api.LegId, l *state) bool { return l.closed }):
		return api.ErrState
	case d.some(ids, func(id api.LegId, l *state) bool {
		_, _, _, ok := place(l.config, class)
		return !ok
	}):
		return api.ErrClass
	case sale && d.some(ids, func(id api.LegId, l *state) bool { return d.Left(id, class) < n }):
		return api.ErrClosed
	case !sale && d.some(ids, func(id api.LegId, l *state) bool { return l.sold[class] < n }):
		return api.ErrArg
	}
	for _, id := range ids {
		if sale {
			d.legs[id].sold[class] += n
		} else {
			d.legs[id].sold[class] -= n
		}
	}
	return api.OK
}

func (d *defined) Sell(ids []api.LegId, class string, n int) api.Errno {
	return d.act(ids, class, n, true)
}

func (d *defined) Cancel(ids []api.LegId, class string, n int) api.Errno {
	return d.act(ids, class, n, false)
}

func (d *defined) Resize(id api.LegId, equip string) api.Errno {
	l := d.legs[id]
	c, ok := d.equipment(equip)
	if l == nil || !ok {
		return api.ErrNone
	}
	sold := map[string]int{}
	for class, n := range l.sold {
		if _, _, _, ok := place(c, class); !ok {
			_, i, _, _ := place(l.config, class)
			to := c.Cabins[min(i, len(c.Cabins)-1)].Classes
			class = to[len(to)-1].Code
		}
		sold[class] += n
	}
	l.config, l.sold = c, sold
	return api.OK
}

func (d *defined) Left(id api.LegId, class string) int {
	l := d.legs[id]
	if l == nil || l.closed {
		return 0
	}
	c, _, rank, ok := place(l.config, class)
	if !ok || crowded(c, l.sold) {
		return 0
	}
	least := math.MaxInt
	for i := range rank + 1 {
		least = min(least, limit(c, i)-nested(c, l.sold, i))
	}
	return max(least, 0)
}

func (d *defined) Free(id api.LegId, class string) int {
	l := d.legs[id]
	if l == nil {
		return 0
	}
	c, _, _, ok := place(l.config, class)
	if !ok {
		return 0
	}
	return max(c.Seats+c.Over-nested(c, l.sold, 0), 0)
}

func (d *defined) Counts(id api.LegId) []api.Count {
	var counts []api.Count
	if l := d.legs[id]; l != nil {
		for _, c := range l.config.Cabins {
			for _, x := range c.Classes {
				counts = append(counts, api.Count{Class: x.Code, Sold: l.sold[x.Code]})
			}
		}
	}
	return counts
}

func (d *defined) Excess(id api.LegId) int {
	excess := 0
	if l := d.legs[id]; l != nil {
		for _, c := range l.config.Cabins {
			for rank := range c.Classes {
				if !crowded(c, l.sold) {
					excess = max(excess, nested(c, l.sold, rank)-limit(c, rank))
				}
			}
		}
	}
	return excess
}

func (d *defined) Equip(id api.LegId) (string, bool) {
	if l := d.legs[id]; l != nil {
		return l.config.Equip, true
	}
	return "", false
}

func (d *defined) Legs() []api.LegId {
	var l []api.LegId
	for id := range d.legs {
		l = append(l, id)
	}
	slices.SortFunc(l, func(a, b api.LegId) int {
		switch {
		case a.Carrier != b.Carrier:
			return cmp.Compare(a.Carrier, b.Carrier)
		case a.Number != b.Number:
			return cmp.Compare(a.Number, b.Number)
		case a.Day != b.Day:
			return cmp.Compare(a.Day, b.Day)
		}
		return cmp.Compare(a.From, b.From)
	})
	return l
}

// P15.1

func TestNewOfRightConfigurations(t *testing.T) {
	for _, l := range [][]api.Config{nil, {}, fleet()[:1], fleet(), crowd()} {
		s := start(t, l)
		legsAre(t, s)
		for _, id := range ids() {
			returns(t, s, shut(id), api.ErrNone)
			returns(t, s, sell("Y", 1, id), api.ErrNone)
			returns(t, s, cancel("Y", 1, id), api.ErrNone)
			returns(t, s, open(id, "321"), api.ErrNone)
			for _, c := range l {
				returns(t, s, resize(id, c.Equip), api.ErrNone)
				returns(t, s.Copy(), open(id, c.Equip), api.OK)
			}
		}
		legsAre(t, s)
	}
	// Without configurations, no leg can be opened, but there is an inventory.
	returns(t, start(t, nil), open(from("LHR"), "320"), api.ErrNone)
	returns(t, start(t, nil), open(from("LHR"), ""), api.ErrNone)
}

func TestNewOfWrongConfigurations(t *testing.T) {
	right := in("Y", 10, 1, class("Y", 3))
	wrong := list(
		config("320"), config("32", right), config("32o", right), config("", right),
		config("320", in("Y", 0, 0, class("Y", 0))), config("320", in("Y", 1000, 0, class("Y", 0))), config("320", in("Y", 1, -1, class("Y", 0))),
		config("320", in("", 1, 0, class("Y", 0))), config("320", in("Y", 10, 0)), config("320", right, right),
		config("320", in("Y", 10, 0, class("y", 0))), config("320", in("Y", 10, 0, class("Y", 11))), config("320", in("Y", 10, 0, class("Y", 3), class("M", 2))),
		config("320", in("Y", 10, 0, class("Y", 3), class("Y", 2))), config("320", in("F", 1, 0, class("F", 0)), in("Y", 1, 0, class("F", 0))),
		config("320", right, in("A", 1, 0, class("A", 0)), in("B", 1, 0, class("B", 0)), in("C", 1, 0, class("C", 0)), in("D", 1, 0, class("D", 0))),
		api.Config{},
	)
	fails := func(l []api.Config) {
		t.Helper()
		s, faults := New(l)
		if want := cabin.Check(l); s != nil || len(want) == 0 || !slices.Equal(faults, want) {
			t.Errorf("New(%v) = %v, %v, not %v", l, s, faults, want)
		}
	}
	for _, c := range wrong {
		fails(list(c))
		fails(append(fleet(), c))
		fails(append(list(c), fleet()...))
	}
	fails(wrong)
	// Each one is right, but not both of them.
	fails(append(fleet(), fleet()[0]))
	fails(append(fleet(), config("100", right)))
}

// isVoid fails if an inventory that New did not return has other errors than ErrNil, or an answer.
func isVoid(t *testing.T, s *Stock) {
	t.Helper()
	nothing := answers(define(nil))
	for _, id := range append(ids(), from("JFK")) {
		for _, equip := range list("320", "319", "", "x") {
			returns(t, s, open(id, equip), api.ErrNil)
			returns(t, s, resize(id, equip), api.ErrNil)
		}
		returns(t, s, shut(id), api.ErrNil)
		for _, n := range list(math.MinInt, -1, 0, 1, 2, math.MaxInt) {
			for _, class := range list("Y", "", "x") {
				for _, l := range [][]api.LegId{nil, {}, {id}, {id, id}, ids()} {
					returns(t, s, sell(class, n, l...), api.ErrNil)
					returns(t, s, cancel(class, n, l...), api.ErrNil)
				}
			}
		}
	}
	if l := answers(s); l != nothing {
		t.Errorf("the answers are %s", l)
	}
	if c := s.Copy(); c != nil {
		t.Errorf("Copy() = %v", c)
	}
}

func TestInventoryThatNewDidNotReturn(t *testing.T) {
	isVoid(t, nil)
	isVoid(t, &Stock{})
	isVoid(t, new(Stock))
	var s Stock
	isVoid(t, &s)
	// What New returns with violations is none, too.
	none, _ := New(list(api.Config{}))
	isVoid(t, none)
}

func TestOpen(t *testing.T) {
	s := start(t, fleet())
	a, b := from("LHR"), from("CDG")
	returns(t, s, open(a, "320"), api.OK)
	equipIs(t, s, a, "320", true)
	equipIs(t, s, b, "", false)
	countsAre(t, s, a, "Y 0", "M 0")
	leftIs(t, s, a, "Y", 11)
	leftIs(t, s, a, "M", 8)
	legsAre(t, s, a)
	// It is open already, with this equipment or with another one, or with none that there is.
	for _, equip := range list("320", "319", "747", "") {
		returns(t, s, open(a, equip), api.ErrTwice)
	}
	// No configuration has these.
	for _, equip := range list("747", "", "32", "3200", "320 ", " 320", "32O", "y", "Y", "\xff\xff\xff") {
		returns(t, s, open(b, equip), api.ErrNone)
	}
	returns(t, s, open(b, "100"), api.OK)
	countsAre(t, s, b, "Z 0")
	// Sold seats stay sold.
	returns(t, s, sell("Y", 2, a), api.OK)
	returns(t, s, open(a, "320"), api.ErrTwice)
	countsAre(t, s, a, "Y 2", "M 0")
	// A closed leg is not opened again.
	returns(t, s, shut(a), api.OK)
	for _, equip := range list("320", "319", "747", "") {
		returns(t, s, open(a, equip), api.ErrTwice)
	}
	leftIs(t, s, a, "Y", 0)
	legsAre(t, s, b, a)
	for _, c := range fleet() {
		x := after(t, fleet(), open(a, c.Equip))
		equipIs(t, x, a, c.Equip, true)
		freeIs(t, x, a, c.Cabins[0].Classes[0].Code, c.Cabins[0].Seats+c.Cabins[0].Over)
	}
}

func TestIdentifiersOfLegs(t *testing.T) {
	for i, id := range ids() {
		s := after(t, fleet(), open(id, "320"), sell("Y", 3, id))
		for k, other := range ids() {
			if k == i {
				continue
			}
			equipIs(t, s, other, "", false)
			countsAre(t, s, other)
			returns(t, s, shut(other), api.ErrNone)
			returns(t, s, resize(other, "319"), api.ErrNone)
			returns(t, s, sell("Y", 1, other), api.ErrNone)
			returns(t, s, sell("Y", 1, id, other), api.ErrNone)
			returns(t, s, cancel("Y", 1, other), api.ErrNone)
			returns(t, s, open(other, "319"), api.OK)
			returns(t, s, sell("Y", 1, other, id), api.OK)
			countsAre(t, s, other, "Y 1", "M 0")
			returns(t, s, shut(other), api.OK)
			returns(t, s, cancel("Y", 1, other, id), api.OK)
			countsAre(t, s, other, "Y 0", "M 0")
			leftIs(t, s, id, "Y", 8)
			equipIs(t, s, id, "320", true)
		}
		if l := s.Legs(); len(l) != len(ids()) {
			t.Errorf("Legs() = %v", l)
		}
	}
}

func TestAnyIdentifiers(t *testing.T) {
	// No identifier is refused, and no two different ones are taken for the same.
	var l []api.LegId
	for _, carrier := range list("", "BA", "ba", "B", "BA ", "\xff") {
		for _, number := range list(0, 2, -2, math.MinInt, math.MaxInt, 1<<32+2) {
			for _, day := range list(0, 9, -9, math.MinInt, math.MaxInt, 1<<32+9) {
				for _, from := range list("", "LHR", "lhr", "A\x00", "LHR ") {
					l = append(l, api.LegId{Carrier: carrier, Number: number, Day: day, From: from})
				}
			}
		}
	}
	l = append(l, api.LegId{Carrier: "A", From: "BC"}, api.LegId{Carrier: "AB", From: "C"}, api.LegId{Number: 12, Day: 3}, api.LegId{Number: 1, Day: 23})
	s := start(t, fleet())
	for i, id := range l {
		if s.Open(id, "320") != api.OK || len(s.Legs()) != i+1 {
			t.Fatalf("%v is not opened", id)
		}
	}
	if e := s.Sell(l, "M", 8); e != api.OK {
		t.Errorf("Sell of all legs returns %d", e)
	}
	if e := s.Sell(l, "M", 1); e != api.ErrClosed {
		t.Errorf("Sell of all legs returns %d", e)
	}
	if e := s.Cancel(append(l, l[7]), "M", 1); e != api.ErrTwice {
		t.Errorf("Cancel of all legs and one again returns %d", e)
	}
	for i, id := range l {
		if e := s.Cancel(list(id), "M", i%8+1); e != api.OK {
			t.Errorf("Cancel of %v returns %d", id, e)
		}
	}
	for i, id := range l {
		countsAre(t, s, id, "Y 0", "M "+strconv.Itoa(7-i%8))
	}
}

func TestClose(t *testing.T) {
	a, b := from("LHR"), from("CDG")
	s := start(t, fleet())
	returns(t, s, shut(a), api.ErrNone)
	returns(t, s, open(a, "320"), api.OK)
	returns(t, s, open(b, "320"), api.OK)
	returns(t, s, sell("M", 5, a, b), api.OK)
	returns(t, s, shut(a), api.OK)
	returns(t, s, shut(a), api.ErrState)
	returns(t, s, shut(a), api.ErrState)
	returns(t, s, shut(from("JFK")), api.ErrNone)
	// It keeps what is sold, and is still there.
	countsAre(t, s, a, "Y 0", "M 5")
	equipIs(t, s, a, "320", true)
	legsAre(t, s, b, a)
	leftIs(t, s, a, "Y", 0)
	leftIs(t, s, b, "Y", 6)
	returns(t, s, sell("Y", 1, a), api.ErrState)
	returns(t, s, sell("Y", 1, b), api.OK)
	// It stays closed.
	for _, c := range list(cancel("M", 5, a), resize(a, "319"), resize(a, "777"), open(from("JFK"), "320"), cancel("Y", 1, b)) {
		returns(t, s, c, api.OK)
		returns(t, s, shut(a), api.ErrState)
		returns(t, s, sell("Y", 1, a), api.ErrState)
		returns(t, s, open(a, "320"), api.ErrTwice)
	}
	returns(t, s, shut(b), api.OK)
	returns(t, s, shut(b), api.ErrState)
}

// extremes are numbers that no sale has. Some of them are small in 16 or 32 bits.
func extremes() []int {
	return list(0, -1, -2, -11, -1<<16, -1<<32, -1<<32+1, math.MinInt, math.MinInt+1)
}

// greatest are more seats than there are.
func greatest() []int {
	return list(1999, 1<<16, 1<<16+1, 1<<31, 1<<32, 1<<32+1, math.MaxInt-1, math.MaxInt)
}

func TestSellOfExamples(t *testing.T) {
	a, b := from("LHR"), from("CDG")
	s := after(t, fleet(), open(a, "320"))
	returns(t, s, sell("M", 8, a), api.OK)
	returns(t, s, sell("M", 1, a), api.ErrClosed)
	freeIs(t, s, a, "Y", 3)
	// One has 1 left.
	s = after(t, fleet(), open(a, "320"), open(b, "319"), sell("Y", 5, b))
	leftIs(t, s, b, "Y", 1)
	returns(t, s, sell("Y", 2, a, b), api.ErrClosed)
	returns(t, s, sell("Y", 2, b, a), api.ErrClosed)
	countsAre(t, s, a, "Y 0", "M 0")
	countsAre(t, s, b, "Y 5", "M 0")
}

func TestSell(t *testing.T) {
	a := from("LHR")
	for _, c := range []struct {
		equip, class string
		most         int
	}{
		{"320", "Y", 11}, {"320", "M", 8}, {"319", "Y", 6}, {"319", "M", 6}, {"777", "F", 4}, {"777", "Y", 12}, {"777", "B", 10}, {"777", "M", 7},
		{"340", "F", 2}, {"340", "C", 4}, {"340", "D", 3}, {"340", "M", 4}, {"340", "Y", 7}, {"340", "Q", 6}, {"100", "Z", 3},
	} {
		for n := 1; n <= c.most; n++ {
			s := after(t, fleet(), open(a, c.equip))
			leftIs(t, s, a, c.class, c.most)
			returns(t, s, sell(c.class, n, a), api.OK)
			leftIs(t, s, a, c.class, c.most-n)
			// Exactly what is left, and one more.
			returns(t, s, sell(c.class, c.most-n+1, a), api.ErrClosed)
			if n < c.most {
				returns(t, s, sell(c.class, c.most-n, a), api.OK)
			}
			leftIs(t, s, a, c.class, 0)
			returns(t, s, sell(c.class, 1, a), api.ErrClosed)
		}
		s := after(t, fleet(), open(a, c.equip))
		for _, n := range append(greatest(), c.most+1, c.most+2) {
			returns(t, s, sell(c.class, n, a), api.ErrClosed)
		}
		for _, n := range extremes() {
			returns(t, s, sell(c.class, n, a), api.ErrArg)
		}
	}
}

func TestSellOfSeveralClasses(t *testing.T) {
	a := from("LHR")
	s := after(t, fleet(), open(a, "777"))
	returns(t, s, sell("M", 6, a), api.OK)
	countsAre(t, s, a, "F 0", "Y 0", "B 0", "M 6")
	returns(t, s, sell("M", 2, a), api.ErrClosed)
	returns(t, s, sell("B", 4, a), api.OK)
	returns(t, s, sell("M", 1, a), api.ErrClosed)
	returns(t, s, sell("B", 1, a), api.ErrClosed)
	returns(t, s, sell("Y", 3, a), api.ErrClosed)
	returns(t, s, sell("Y", 2, a), api.OK)
	returns(t, s, sell("Y", 1, a), api.ErrClosed)
	// The other cabin has seats of its own.
	returns(t, s, sell("F", 5, a), api.ErrClosed)
	returns(t, s, sell("F", 4, a), api.OK)
	countsAre(t, s, a, "F 4", "Y 2", "B 4", "M 6")
	excessIs(t, s, a, 0)
}

func TestSellOfSeveralLegs(t *testing.T) {
	a, b, c, d := from("LHR"), from("CDG"), from("JFK"), from("SFO")
	s := after(t, fleet(), open(a, "320"), open(b, "319"), open(c, "777"), open(d, "100"))
	returns(t, s, sell("M", 2, a, b, c), api.OK)
	countsAre(t, s, a, "Y 0", "M 2")
	countsAre(t, s, b, "Y 0", "M 2")
	countsAre(t, s, c, "F 0", "Y 0", "B 0", "M 2")
	countsAre(t, s, d, "Z 0")
	// What the leg with the fewest seats has left, and one more, wherever it is.
	for _, l := range [][]api.LegId{{b, a, c}, {a, b, c}, {c, a, b}, {b, a}, {c, b}} {
		for n := 5; n <= 6; n++ {
			returns(t, s, sell("M", n, l...), api.ErrClosed)
		}
		x := s.Copy()
		returns(t, x, sell("M", 4, l...), api.OK)
		for _, id := range l {
			returns(t, x, cancel("M", 6, id), api.OK)
		}
	}
	// One has no such class, or is closed, or is not there.
	for _, l := range [][]api.LegId{{d, a, c}, {a, d, c}, {a, c, d}} {
		returns(t, s, sell("M", 1, l...), api.ErrClass)
	}
	for _, l := range [][]api.LegId{{from("AAA"), a, c}, {a, from("AAA"), c}, {a, c, from("AAA")}} {
		returns(t, s, sell("M", 1, l...), api.ErrNone)
	}
	returns(t, s, shut(b), api.OK)
	for _, l := range [][]api.LegId{{b, a, c}, {a, b, c}, {a, c, b}} {
		returns(t, s, sell("M", 1, l...), api.ErrState)
	}
	returns(t, s, sell("M", 1, a, c), api.OK)
	returns(t, s, cancel("M", 2, a, b, c), api.OK)
	countsAre(t, s, a, "Y 0", "M 1")
	countsAre(t, s, b, "Y 0", "M 0")
	countsAre(t, s, c, "F 0", "Y 0", "B 0", "M 1")
}

func TestErrorsOfSellInOrder(t *testing.T) {
	a, b, c, d, none := from("LHR"), from("CDG"), from("JFK"), from("SFO"), from("AAA")
	// Seats of Y are left on a only; b is full, c is closed, d has no Y, and is closed.
	s := after(t, fleet(), open(a, "320"), open(b, "319"), open(c, "320"), open(d, "100"), sell("Y", 6, b), shut(c), shut(d))
	for _, n := range list(0, -1, math.MinInt) {
		for _, l := range [][]api.LegId{nil, {}, {a}, {a, a}, {none}, {none, none}, {c}, {d}, {b}} {
			returns(t, s, sell("Y", n, l...), api.ErrArg)
			returns(t, s, cancel("Y", n, l...), api.ErrArg)
			returns(t, s, sell("X", n, l...), api.ErrArg)
		}
	}
	for _, n := range list(1, 2, math.MaxInt) {
		returns(t, s, sell("Y", n), api.ErrArg)
		returns(t, s, sell("X", n, []api.LegId{}...), api.ErrArg)
		returns(t, s, cancel("Y", n), api.ErrArg)
		for _, l := range [][]api.LegId{{a, a}, {none, none}, {c, c}, {d, d}, {b, b}, {none, a, a}, {a, c, a}, {a, a, none}, {d, a, none, a}, {a, b, c, d, none, b}} {
			returns(t, s, sell("Y", n, l...), api.ErrTwice)
			returns(t, s, cancel("Y", n, l...), api.ErrTwice)
			returns(t, s, sell("X", n, l...), api.ErrTwice)
		}
		for _, l := range [][]api.LegId{{none}, {c, none}, {none, c}, {d, none}, {b, none}, {none, b}, {a, none}, {a, b, c, d, none}} {
			returns(t, s, sell("Y", n, l...), api.ErrNone)
			returns(t, s, cancel("Y", n, l...), api.ErrNone)
			returns(t, s, sell("X", n, l...), api.ErrNone)
		}
		for _, l := range [][]api.LegId{{c}, {b, c}, {c, b}, {d}, {d, a}, {a, d}, {a, b, c, d}} {
			returns(t, s, sell("Y", n, l...), api.ErrState)
			returns(t, s, sell("X", n, l...), api.ErrState)
		}
		// Closed legs are allowed.
		for _, l := range [][]api.LegId{{d}, {d, a}, {a, d}, {c, d}, {a, b, c, d}} {
			returns(t, s, cancel("Y", n, l...), api.ErrClass)
		}
		for _, l := range [][]api.LegId{{a}, {b}, {a, b}, {b, a}} {
			returns(t, s, sell("X", n, l...), api.ErrClass)
			returns(t, s, sell("", n, l...), api.ErrClass)
			returns(t, s, cancel("X", n, l...), api.ErrClass)
		}
		for _, l := range [][]api.LegId{{b}, {a, b}, {b, a}} {
			returns(t, s, sell("Y", n, l...), api.ErrClosed)
		}
		for _, l := range [][]api.LegId{{a}, {c}, {a, b}, {b, a}, {b, c, a}} {
			returns(t, s, cancel("Y", n, l...), api.ErrArg)
		}
	}
}

// scene returns legs that differ in what is wrong with them, the calls that bring them about, and two legs that there are not.
func scene() ([]call, []api.LegId) {
	l := ids()
	return list(
		open(l[0], "320"), sell("Y", 4, l[0]), sell("M", 5, l[0]),
		open(l[1], "319"), sell("M", 6, l[1]),
		open(l[2], "777"), sell("M", 3, l[2]), sell("F", 4, l[2]), shut(l[2]),
		open(l[3], "100"), sell("Z", 2, l[3]),
		open(l[4], "100"), sell("Z", 1, l[4]), shut(l[4]),
		open(l[5], "777"), sell("M", 4, l[5]), sell("B", 3, l[5]), sell("F", 1, l[5]),
	), append(l, from("AAA"))
}

func TestSellAndCancelAreAsDefined(t *testing.T) {
	calls, legs := scene()
	s, d := after(t, fleet(), calls...), define(fleet())
	for _, c := range calls {
		c.on(d)
	}
	before := answers(d)
	count := map[string]int{}
	upTo(legs, 3, func(l []api.LegId) {
		for _, class := range list("Y", "M", "Z", "F", "X") {
			for _, n := range list(math.MinInt, -1, 0, 1, 2, 3, 4, 7, math.MaxInt) {
				for _, c := range list(sell(class, n, l...), cancel(class, n, l...)) {
					x, y := s, d
					want := c.on(d.copy())
					if want == api.OK {
						x, y = after(t, fleet(), calls...), d.copy()
						c.on(y)
					}
					if e := c.on(x); e != want {
						t.Fatalf("%v returns %d, not %d", c, e, want)
					}
					if want == api.OK && answers(x) != answers(y) {
						t.Fatalf("after %v, the answers are %s, not %s", c, answers(x), answers(y))
					}
					count[c.kind+strconv.Itoa(int(want))]++
				}
			}
		}
		// None of the calls with an error changed anything.
		if answers(s) != before {
			t.Fatalf("calls for %v change the answers %s to %s", l, before, answers(s))
		}
	})
	for _, e := range list("sell0", "sell2", "sell6", "sell7", "sell10", "sell16", "sell17", "cancel0", "cancel2", "cancel6", "cancel7", "cancel16") {
		if count[e] < 10 {
			t.Errorf("%s occurs %d times", e, count[e])
		}
	}
}

func TestCancel(t *testing.T) {
	a, b := from("LHR"), from("CDG")
	s := after(t, fleet(), open(a, "320"), open(b, "777"), sell("M", 5, a), sell("Y", 4, a), sell("M", 3, b))
	// Exactly what is sold, one more, and the greatest numbers.
	for _, c := range []struct {
		class string
		sold  int
	}{{"M", 5}, {"Y", 4}} {
		for n := 1; n <= c.sold; n++ {
			x := s.Copy()
			returns(t, x, cancel(c.class, n, a), api.OK)
			returns(t, x, cancel(c.class, c.sold-n+1, a), api.ErrArg)
			if n < c.sold {
				returns(t, x, cancel(c.class, c.sold-n, a), api.OK)
			}
			returns(t, x, cancel(c.class, 1, a), api.ErrArg)
		}
		for _, n := range append(append(extremes(), greatest()...), c.sold+1) {
			returns(t, s, cancel(c.class, n, a), api.ErrArg)
		}
	}
	// What is sold in another class, or on another leg, does not count.
	returns(t, s, cancel("M", 4, a, b), api.ErrArg)
	returns(t, s, cancel("M", 4, b, a), api.ErrArg)
	returns(t, s, cancel("Y", 1, b), api.ErrArg)
	returns(t, s, cancel("Y", 1, a, b), api.ErrArg)
	returns(t, s, cancel("F", 1, a), api.ErrClass)
	returns(t, s, cancel("F", 1, b, a), api.ErrClass)
	returns(t, s, cancel("F", 1, b), api.ErrArg)
	returns(t, s, cancel("M", 3, a, b), api.OK)
	countsAre(t, s, a, "Y 4", "M 2")
	countsAre(t, s, b, "F 0", "Y 0", "B 0", "M 0")
	leftIs(t, s, a, "M", 5)
	leftIs(t, s, b, "M", 7)
	// On closed legs, too.
	returns(t, s, shut(a), api.OK)
	returns(t, s, cancel("M", 3, a), api.ErrArg)
	returns(t, s, cancel("X", 1, a), api.ErrClass)
	returns(t, s, cancel("M", 2, a), api.OK)
	returns(t, s, cancel("Y", 4, a), api.OK)
	countsAre(t, s, a, "Y 0", "M 0")
	freeIs(t, s, a, "Y", 11)
	leftIs(t, s, a, "Y", 0)
}

func TestCancelAfterSell(t *testing.T) {
	a, b := from("LHR"), from("CDG")
	s := after(t, fleet(), open(a, "320"), open(b, "340"), sell("M", 1, a))
	for _, class := range list("Y", "M") {
		for n := 1; n <= 4; n++ {
			before := answers(s)
			returns(t, s, sell(class, n, b, a), api.OK)
			returns(t, s, cancel(class, n, a, b), api.OK)
			if answers(s) != before {
				t.Errorf("after a sale and its cancellation, the answers are %s, not %s", answers(s), before)
			}
		}
	}
}

func TestResizeOfExample(t *testing.T) {
	a := from("LHR")
	s := after(t, fleet(), open(a, "320"), sell("M", 8, a))
	returns(t, s, resize(a, "319"), api.OK)
	countsAre(t, s, a, "Y 0", "M 8")
	excessIs(t, s, a, 2)
	equipIs(t, s, a, "319", true)
}

func TestErrorsOfResize(t *testing.T) {
	a, b := from("LHR"), from("CDG")
	s := after(t, fleet(), open(a, "320"), sell("M", 8, a), open(b, "340"), sell("Q", 2, b), shut(b))
	for _, id := range list(a, b) {
		for _, equip := range list("747", "", "32", "3200", "320 ", "Y", "\xff") {
			returns(t, s, resize(id, equip), api.ErrNone)
		}
	}
	for _, equip := range list("320", "319", "747", "") {
		returns(t, s, resize(from("AAA"), equip), api.ErrNone)
		returns(t, s, resize(api.LegId{}, equip), api.ErrNone)
	}
	legsAre(t, s, b, a)
}

func TestResizeToTheSameEquipment(t *testing.T) {
	calls, _ := scene()
	for _, id := range ids()[:6] {
		s := after(t, fleet(), calls...)
		equip, _ := s.Equip(id)
		before := answers(s)
		returns(t, s, resize(id, equip), api.OK)
		if answers(s) != before {
			t.Errorf("a resize to the same equipment changes the answers %s to %s", before, answers(s))
		}
	}
}

func TestResizeToOtherCabins(t *testing.T) {
	a := from("LHR")
	full := list(open(a, "340"), sell("F", 1, a), sell("C", 2, a), sell("D", 1, a), sell("M", 3, a), sell("Y", 4, a), sell("Q", 2, a))
	// To fewer cabins: F to the last class of the first one, those of other cabins to the last class of the last one, unless there is the same class.
	s := after(t, fleet(), full...)
	countsAre(t, s, a, "F 1", "C 2", "D 1", "M 3", "Y 4", "Q 2")
	returns(t, s, resize(a, "320"), api.OK)
	countsAre(t, s, a, "Y 4", "M 9")
	excessIs(t, s, a, 2)
	// Back to more cabins: both classes are there, in other cabins.
	returns(t, s, resize(a, "340"), api.OK)
	countsAre(t, s, a, "F 0", "C 0", "D 0", "M 9", "Y 4", "Q 0")
	excessIs(t, s, a, 5)
	// To two cabins.
	s = after(t, fleet(), full...)
	returns(t, s, resize(a, "777"), api.OK)
	countsAre(t, s, a, "F 1", "Y 4", "B 0", "M 8")
	excessIs(t, s, a, 1)
	// To a single class, and back.
	returns(t, s, resize(a, "100"), api.OK)
	countsAre(t, s, a, "Z 13")
	excessIs(t, s, a, 10)
	returns(t, s, resize(a, "777"), api.OK)
	countsAre(t, s, a, "F 13", "Y 0", "B 0", "M 0")
	excessIs(t, s, a, 9)
	returns(t, s, resize(a, "319"), api.OK)
	countsAre(t, s, a, "Y 0", "M 13")
	returns(t, s, resize(a, "340"), api.OK)
	countsAre(t, s, a, "F 0", "C 0", "D 0", "M 13", "Y 0", "Q 0")
	// From one cabin to the first of several, if they do not have the class.
	s = after(t, fleet(), open(a, "100"), sell("Z", 2, a))
	returns(t, s, resize(a, "340"), api.OK)
	countsAre(t, s, a, "F 2", "C 0", "D 0", "M 0", "Y 0", "Q 0")
	// From the second cabin to the second one, where it ends with another class.
	s = after(t, fleet(), open(a, "777"), sell("B", 3, a), sell("F", 1, a))
	returns(t, s, resize(a, "340"), api.OK)
	countsAre(t, s, a, "F 1", "C 0", "D 3", "M 0", "Y 0", "Q 0")
}

func TestResizeBeyondLimits(t *testing.T) {
	a := from("LHR")
	s := after(t, fleet(), open(a, "320"), sell("M", 8, a), sell("Y", 3, a), resize(a, "319"))
	countsAre(t, s, a, "Y 3", "M 8")
	excessIs(t, s, a, 5)
	freeIs(t, s, a, "Y", 0)
	leftIs(t, s, a, "Y", 0)
	leftIs(t, s, a, "M", 0)
	returns(t, s, sell("Y", 1, a), api.ErrClosed)
	returns(t, s, sell("M", 1, a), api.ErrClosed)
	// As many as are sold can be given back, and no more.
	returns(t, s, cancel("M", 9, a), api.ErrArg)
	returns(t, s, cancel("M", 5, a), api.OK)
	excessIs(t, s, a, 0)
	returns(t, s, sell("M", 1, a), api.ErrClosed)
	returns(t, s, cancel("Y", 1, a), api.OK)
	leftIs(t, s, a, "M", 1)
	returns(t, s, sell("M", 2, a), api.ErrClosed)
	returns(t, s, sell("M", 1, a), api.OK)
	// To the greater equipment again, which has seats left.
	returns(t, s, resize(a, "320"), api.OK)
	countsAre(t, s, a, "Y 2", "M 4")
	leftIs(t, s, a, "Y", 5)
	leftIs(t, s, a, "M", 4)
	// Other legs of the equipment do not change.
	s = after(t, fleet(), open(a, "320"), open(from("CDG"), "320"), sell("M", 8, a, from("CDG")), resize(a, "319"))
	countsAre(t, s, from("CDG"), "Y 0", "M 8")
	equipIs(t, s, from("CDG"), "320", true)
	leftIs(t, s, from("CDG"), "Y", 3)
}

func TestResizeOfClosedAndOpenLegs(t *testing.T) {
	a, b := from("LHR"), from("CDG")
	s := after(t, fleet(), open(a, "320"), open(b, "320"), sell("M", 3, a, b), shut(a))
	for _, equip := range list("319", "777", "340", "320", "320") {
		returns(t, s, resize(a, equip), api.OK)
		returns(t, s, resize(b, equip), api.OK)
		if !slices.Equal(s.Counts(a), s.Counts(b)) {
			t.Errorf("in %s, Counts is %v of the leg that is closed, and %v of the other one", equip, s.Counts(a), s.Counts(b))
		}
		leftIs(t, s, a, "Y", 0)
		leftIs(t, s, a, "M", 0)
		returns(t, s, shut(a), api.ErrState)
		returns(t, s, open(a, equip), api.ErrTwice)
		returns(t, s, sell("Y", 1, a), api.ErrState)
		returns(t, s, sell("Y", 1, b), api.OK)
		returns(t, s, cancel("Y", 1, b), api.OK)
		returns(t, s, cancel("M", 4, a), api.ErrArg)
	}
	returns(t, s, cancel("M", 3, a, b), api.OK)
	countsAre(t, s, a, "Y 0", "M 0")
}

// mixed returns right configurations of any kind with few classes, the greatest of which have so many seats.
func mixed(t *testing.T, next func(n int) int, seats int) []api.Config {
	t.Helper()
	var l []api.Config
	for i := range 2 + next(3) {
		codes := classes()[:8]
		for k := range codes {
			m := next(k + 1)
			codes[k], codes[m] = codes[m], codes[k]
		}
		c := config("30" + strconv.Itoa(i))
		for k := range 1 + next(api.MaxCabins) {
			x := in(strconv.Itoa(k), 1+next(seats), next(2)*next(seats))
			var protects []int
			for range 1 + next(len(codes)-3+k) {
				protects = append(protects, next(x.Seats+x.Over+1))
			}
			slices.Sort(protects)
			for _, n := range protects {
				x.Classes = append(x.Classes, class(codes[0], n))
				codes = codes[1:]
			}
			c.Cabins = append(c.Cabins, x)
			if len(codes) < 4 {
				break
			}
		}
		l = append(l, c)
	}
	if faults := cabin.Check(l); len(faults) > 0 {
		t.Fatalf("the configurations %v are not right: %v", l, faults)
	}
	return l
}

// one returns one of the elements of a list.
func one[T any](next func(n int) int, l []T) T { return l[next(len(l))] }

// number returns a number of seats for a call: often one that is just allowed, or just not.
func number(next func(n int) int, d *defined, id api.LegId, class string) int {
	n := d.Left(id, class)
	if l := d.legs[id]; l != nil && next(2) == 0 {
		n = l.sold[class]
	}
	switch next(12) {
	case 0:
		return next(3) - 1
	case 1:
		return one(next, append(extremes(), greatest()...))
	case 2, 3, 4:
		return n + next(3) - 1
	}
	return 1 + next(max(n, 2))
}

// anyCall returns a call, mostly one that does something.
func anyCall(next func(n int) int, d *defined) call {
	l := ids()
	id := one(next, l)
	if legs := d.Legs(); len(legs) > 0 && next(4) > 0 {
		id = one(next, legs)
	}
	equip := one(next, append(d.configs, api.Config{Equip: "747"})).Equip
	class := one(next, classes())
	if counts := d.Counts(id); len(counts) > 0 && next(8) > 0 {
		class = one(next, counts).Class
	}
	some := list(id)
	for next(3) == 0 {
		some = append(some, one(next, l))
	}
	switch next(16) {
	case 0, 1:
		return open(one(next, l), equip)
	case 2:
		if next(3) == 0 {
			return shut(id)
		}
		return call{kind: one(next, list("sell", "cancel")), ids: nil, code: class, n: 1}
	case 3:
		return resize(id, equip)
	case 4, 5, 6, 7:
		return cancel(class, number(next, d, id, class), some...)
	}
	return sell(class, number(next, d, id, class), some...)
}

// pair is an inventory and the definition of it.
type pair struct {
	s *Stock
	d *defined
}

// anyPair returns an inventory without legs, with configurations of one of four kinds.
func anyPair(t *testing.T, next func(n int) int, i int) pair {
	t.Helper()
	l := fleet()
	if i%4 > 0 {
		l = mixed(t, next, list(3, 12, api.MaxSeats)[i%4-1])
	}
	return pair{start(t, l), define(l)}
}

// step fails if a call does not do what is described, or does something together with an error; it returns the error.
func (p pair) step(t *testing.T, c call) api.Errno {
	t.Helper()
	want := c.on(p.d)
	before := ""
	if want != api.OK {
		before = answers(p.s)
	}
	if e := c.on(p.s); e != want {
		t.Fatalf("%v returns %d, not %d", c, e, want)
	}
	if want != api.OK && answers(p.s) != before {
		t.Fatalf("%v returns %d and changes\n%s to\n%s", c, want, before, answers(p.s))
	}
	return want
}

// check fails if the answers are not the ones that are described.
func (p pair) check(t *testing.T) {
	t.Helper()
	if l, want := answers(p.s), answers(p.d); l != want {
		t.Fatalf("the answers are\n%s, not\n%s", l, want)
	}
}

// P15.1, P15.2 and P15.7

func TestMixedCallsAreAsDefined(t *testing.T) {
	next := numbers(1)
	count := map[string]int{}
	for i := range 300 {
		pairs := list(anyPair(t, next, i))
		for range 150 {
			p := one(next, pairs)
			c := anyCall(next, p.d)
			count[c.kind+strconv.Itoa(int(p.step(t, c)))]++
			if next(50) == 0 && len(pairs) < 3 {
				pairs = append(pairs, pair{p.s.Copy(), p.d.copy()})
			}
			for _, p := range pairs {
				p.check(t)
			}
		}
	}
	for _, e := range list("open0", "open6", "open7", "close0", "close7", "close10", "resize0", "resize7", "sell0", "sell2", "sell6", "sell7", "sell10", "sell16", "sell17", "cancel0", "cancel2", "cancel6", "cancel7", "cancel16") {
		if count[e] < 100 {
			t.Errorf("%s occurs %d times", e, count[e])
		}
	}
}

// All sequences of a few calls in very small cabins.
func TestShortSequencesAreAsDefined(t *testing.T) {
	l := list(
		config("320", in("Y", 2, 0, class("Y", 1), class("M", 1))),
		config("777", in("F", 1, 0, class("F", 0)), in("Y", 1, 1, class("M", 0))),
		config("100", in("Z", 1, 0, class("Z", 0))),
	)
	a, b := from("LHR"), from("CDG")
	calls := list(
		open(a, "320"), open(b, "777"), shut(a), shut(b), resize(a, "320"), resize(a, "777"), resize(a, "100"), resize(b, "100"),
		sell("Y", 1, a), sell("M", 1, a), sell("M", 1, a, b), sell("M", 2, b), sell("Z", 1, a), sell("F", 1, a),
		cancel("M", 1, a), cancel("M", 1, b, a), cancel("Z", 1, a), cancel("F", 2, a),
	)
	for _, first := range [][]call{{}, {open(a, "320"), open(b, "777")}, {open(a, "320"), sell("M", 1, a), open(b, "777"), sell("M", 1, a, b), sell("Y", 1, a)}} {
		upTo(calls, 3, func(then []call) {
			p := pair{start(t, l), define(l)}
			for _, c := range append(first, then...) {
				if e, want := c.on(p.s), c.on(p.d); e != want {
					t.Fatalf("%v of %v %v returns %d, not %d", c, first, then, e, want)
				}
			}
			if l, want := answers(p.s), answers(p.d); l != want {
				t.Fatalf("after %v %v, the answers are\n%s, not\n%s", first, then, l, want)
			}
		})
	}
}

// P15.2

func TestLeft(t *testing.T) {
	a, b := from("LHR"), from("CDG")
	s := after(t, fleet(), open(a, "777"), open(b, "777"), sell("M", 3, a), sell("F", 1, a))
	leftIs(t, s, a, "F", 3)
	leftIs(t, s, a, "Y", 9)
	leftIs(t, s, a, "B", 7)
	leftIs(t, s, a, "M", 4)
	leftIs(t, s, b, "F", 4)
	leftIs(t, s, b, "Y", 12)
	leftIs(t, s, b, "B", 10)
	leftIs(t, s, b, "M", 7)
	// No such class, or no such leg.
	for _, class := range list("", "X", "y", "YM", "Y ", "Q", "Z", "\xff") {
		leftIs(t, s, a, class, 0)
		freeIs(t, s, a, class, 0)
	}
	for _, id := range append(ids()[2:], from("JFK"), from("lhr"), from("")) {
		leftIs(t, s, id, "Y", 0)
		freeIs(t, s, id, "Y", 0)
	}
	// A closed leg has no seats left.
	returns(t, s, shut(a), api.OK)
	for _, class := range list("F", "Y", "B", "M", "X") {
		leftIs(t, s, a, class, 0)
	}
	leftIs(t, s, b, "Y", 12)
}

func TestLeftOfProtect(t *testing.T) {
	a := from("LHR")
	// As much is kept for the classes ahead as there is.
	s := after(t, list(config("320", in("Y", 10, 1, class("Y", 11), class("M", 11)))), open(a, "320"))
	leftIs(t, s, a, "Y", 11)
	leftIs(t, s, a, "M", 0)
	returns(t, s, sell("M", 1, a), api.ErrClosed)
	returns(t, s, sell("Y", 11, a), api.OK)
	// The most classes and seats, in one cabin and in several.
	var l []api.Class
	for i := range api.MaxClasses {
		l = append(l, class(string(rune('A'+i)), 10*i+10))
	}
	all := config("320", in("Y", api.MaxSeats, api.MaxSeats, l...))
	split := config("777", in("A", api.MaxSeats, 0, l[:5]...), in("B", 500, 300, l[5:6]...), in("C", api.MaxSeats, 0, l[6:20]...), in("D", 300, 0, l[20:]...))
	s = after(t, list(all, split), open(a, "320"))
	for i, x := range l {
		leftIs(t, s, a, x.Code, 2*api.MaxSeats-10*i)
		freeIs(t, s, a, x.Code, 2*api.MaxSeats)
	}
	for _, x := range l {
		returns(t, s, sell(x.Code, 1, a), api.OK)
	}
	for i, x := range l {
		leftIs(t, s, a, x.Code, 2*api.MaxSeats-10*i-(26-i))
		freeIs(t, s, a, x.Code, 2*api.MaxSeats-26)
	}
	returns(t, s, resize(a, "777"), api.OK)
	for i, x := range s.Counts(a) {
		if x != (api.Count{Class: l[i].Code, Sold: 1}) {
			t.Errorf("Counts is %v", s.Counts(a))
		}
	}
	for class, want := range map[string]int{"A": api.MaxSeats - 5, "E": api.MaxSeats - 5, "F": 800 - 1, "G": api.MaxSeats - 14, "T": api.MaxSeats - 14, "U": 300 - 6, "Z": 300 - 6} {
		freeIs(t, s, a, class, want)
	}
	// The booking limits are those of the new cabins.
	leftIs(t, s, a, "A", api.MaxSeats-5)
	leftIs(t, s, a, "B", api.MaxSeats-10-4)
	leftIs(t, s, a, "F", 800-1)
	leftIs(t, s, a, "G", api.MaxSeats-14)
	leftIs(t, s, a, "U", 300-6)
	leftIs(t, s, a, "Z", 300-250-1)
}

func TestFree(t *testing.T) {
	a := from("LHR")
	s := after(t, fleet(), open(a, "777"))
	frees := func(f, y int) {
		t.Helper()
		freeIs(t, s, a, "F", f)
		for _, class := range list("Y", "B", "M") {
			freeIs(t, s, a, class, y)
		}
		freeIs(t, s, a, "X", 0)
		freeIs(t, s, from("CDG"), "Y", 0)
	}
	// With the seats by which a cabin may be oversold.
	frees(4, 12)
	returns(t, s, sell("M", 7, a), api.OK)
	frees(4, 5)
	returns(t, s, sell("B", 3, a), api.OK)
	returns(t, s, sell("F", 3, a), api.OK)
	frees(1, 2)
	returns(t, s, sell("Y", 2, a), api.OK)
	frees(1, 0)
	// Whether the leg is open or closed.
	returns(t, s, cancel("B", 2, a), api.OK)
	frees(1, 2)
	returns(t, s, shut(a), api.OK)
	frees(1, 2)
	returns(t, s, cancel("F", 1, a), api.OK)
	frees(2, 2)
	// One is left, none, and then fewer than none.
	s = after(t, fleet(), open(a, "320"), sell("M", 8, a), resize(a, "319"))
	freeIs(t, s, a, "Y", 0)
	for i, want := range list(0, 0, 1, 2, 3) {
		returns(t, s, cancel("M", 1, a), api.OK)
		freeIs(t, s, a, "Y", want)
		freeIs(t, s, a, "M", want)
		excessIs(t, s, a, max(1-i, 0))
	}
}

func TestCounts(t *testing.T) {
	a := from("LHR")
	for _, c := range fleet() {
		s := after(t, fleet(), open(a, c.Equip))
		var want []string
		for _, x := range c.Cabins {
			for _, y := range x.Classes {
				want = append(want, y.Code+" 0")
			}
		}
		countsAre(t, s, a, want...)
		for _, x := range c.Cabins {
			returns(t, s, sell(x.Classes[0].Code, 1, a), api.OK)
			want[slices.Index(want, x.Classes[0].Code+" 0")] = x.Classes[0].Code + " 1"
			countsAre(t, s, a, want...)
		}
		returns(t, s, shut(a), api.OK)
		countsAre(t, s, a, want...)
		countsAre(t, s, from("CDG"))
		countsAre(t, s, api.LegId{})
	}
}

func TestExcessOfSeveralCabins(t *testing.T) {
	a := from("LHR")
	l := list(
		config("320", in("F", 20, 0, class("F", 0)), in("Y", 20, 0, class("Y", 0), class("M", 0))),
		config("319", in("F", 5, 0, class("F", 0)), in("Y", 6, 1, class("Y", 4), class("M", 4))),
	)
	for _, c := range []struct{ f, y, m, want int }{
		{0, 0, 0, 0}, {5, 4, 3, 0}, {5, 7, 0, 0}, {6, 0, 0, 1}, {0, 8, 0, 1}, {0, 0, 4, 1}, {0, 4, 4, 1}, {20, 0, 0, 15}, {0, 20, 0, 13}, {0, 0, 20, 17},
		{7, 8, 0, 2}, {6, 9, 0, 2}, {9, 0, 5, 4}, {6, 0, 9, 6}, {6, 8, 0, 1}, {8, 3, 6, 3}, {5, 5, 6, 4}, {4, 8, 0, 1}, {20, 10, 10, 15},
	} {
		s := after(t, l, open(a, "320"))
		for class, n := range map[string]int{"F": c.f, "Y": c.y, "M": c.m} {
			if n > 0 {
				returns(t, s, sell(class, n, a), api.OK)
			}
		}
		excessIs(t, s, a, 0)
		returns(t, s, resize(a, "319"), api.OK)
		excessIs(t, s, a, c.want)
		returns(t, s, shut(a), api.OK)
		excessIs(t, s, a, c.want)
		excessIs(t, s, from("CDG"), 0)
		returns(t, s, resize(a, "320"), api.OK)
		excessIs(t, s, a, 0)
	}
	// The first, a middle and the last one of four.
	many := list(
		config("340", in("A", 9, 0, class("F", 0)), in("B", 9, 0, class("C", 0)), in("C", 9, 0, class("Y", 0)), in("D", 9, 0, class("Q", 0))),
		config("319", in("A", 3, 0, class("F", 0)), in("B", 3, 0, class("C", 0)), in("C", 3, 0, class("Y", 0)), in("D", 3, 0, class("Q", 0))),
	)
	for i, class := range list("F", "C", "Y", "Q") {
		s := after(t, many, open(a, "340"), sell(class, 5+i, a), resize(a, "319"))
		excessIs(t, s, a, 2+i)
	}
}

// crowd returns configurations with which many seats can be moved to the class Z: 340 has another cabin in which seats can be sold again and again, 100 has no other class, 320 has a class before it and one after it, and 777 has a small cabin behind its own.
func crowd() []api.Config {
	return list(
		config("340", in("Z", 999, 999, class("Z", 0)), in("Y", 999, 999, class("Y", 0))),
		config("100", in("Z", 999, 999, class("Z", 0))),
		config("320", in("Y", 999, 999, class("Y", 0), class("Z", 0), class("M", 0))),
		config("777", in("Z", 999, 999, class("Z", 0)), in("Q", 5, 0, class("Q", 0))),
	)
}

// crowding returns the calls that open a leg with the equipment 340, and bring so many seats to its class Z by changes of the equipment.
func crowding(id api.LegId, n int) []call {
	l := list(open(id, "340"))
	for n > 0 {
		l = append(l, sell("Y", min(n, 1998), id), resize(id, "100"), resize(id, "340"))
		n -= min(n, 1998)
	}
	return l
}

func TestManySeatsInOneClass(t *testing.T) {
	a := from("LHR")
	for _, c := range []struct{ sold, excess int }{{1997, 0}, {1998, 0}, {1999, 1}, {9998, 8000}, {9999, 8001}, {10000, 0}, {10001, 0}, {25000, 0}} {
		s := after(t, crowd(), crowding(a, c.sold)...)
		n := strconv.Itoa(c.sold)
		countsAre(t, s, a, "Z "+n, "Y 0")
		excessIs(t, s, a, c.excess)
		leftIs(t, s, a, "Z", max(1998-c.sold, 0))
		freeIs(t, s, a, "Z", max(1998-c.sold, 0))
		returns(t, s, sell("Z", 2, a), api.ErrClosed)
		// The other cabin does not depend on it.
		leftIs(t, s, a, "Y", 1998)
		freeIs(t, s, a, "Y", 1998)
		returns(t, s, sell("Y", 100, a), api.OK)
		leftIs(t, s, a, "Y", 1898)
		returns(t, s, resize(a, "777"), api.OK)
		countsAre(t, s, a, "Z "+n, "Q 100")
		excessIs(t, s, a, max(c.excess, 95))
		returns(t, s, cancel("Q", 100, a), api.OK)
		// Other classes of its cabin do.
		returns(t, s, resize(a, "320"), api.OK)
		countsAre(t, s, a, "Y 0", "Z "+n, "M 0")
		excessIs(t, s, a, c.excess)
		for _, class := range list("Y", "Z", "M") {
			leftIs(t, s, a, class, max(1998-c.sold, 0))
			freeIs(t, s, a, class, max(1998-c.sold, 0))
			returns(t, s, sell(class, 2, a), api.ErrClosed)
		}
		// They are given back like others.
		returns(t, s, cancel("Z", c.sold+1, a), api.ErrArg)
		x := s.Copy()
		returns(t, x, cancel("Z", 1, a), api.OK)
		countsAre(t, x, a, "Y 0", "Z "+strconv.Itoa(c.sold-1), "M 0")
		returns(t, s, shut(a), api.OK)
		returns(t, s, cancel("Z", c.sold, a), api.OK)
		freeIs(t, s, a, "Z", 1998)
	}
	// One seat fewer brings back the Excess, and not before.
	s := after(t, crowd(), crowding(a, 10001)...)
	returns(t, s, cancel("Z", 1, a), api.OK)
	excessIs(t, s, a, 0)
	returns(t, s, cancel("Z", 1, a), api.OK)
	excessIs(t, s, a, 8001)
	returns(t, s, cancel("Z", 8002, a), api.OK)
	excessIs(t, s, a, 0)
	leftIs(t, s, a, "Z", 1)
}

func TestManySeatsAreAsDefined(t *testing.T) {
	next := numbers(2)
	count := map[bool]int{}
	for i := range 40 {
		p := pair{start(t, crowd()), define(crowd())}
		for k, id := range ids()[:2] {
			for _, c := range crowding(id, 9000+500*((i+k)%4)) {
				if e := p.step(t, c); e != api.OK {
					t.Fatalf("%v returns %d", c, e)
				}
			}
		}
		for range 150 {
			p.step(t, anyCall(next, p.d))
			p.check(t)
			for _, l := range p.d.legs {
				count[slices.ContainsFunc(l.config.Cabins, func(c api.Cabin) bool { return crowded(c, l.sold) })]++
			}
		}
	}
	if count[true] < 2000 || count[false] < 2000 {
		t.Errorf("%d times a class is crowded, %d times none is", count[true], count[false])
	}
}

func TestEquip(t *testing.T) {
	a := from("LHR")
	s := start(t, fleet())
	equipIs(t, s, a, "", false)
	returns(t, s, open(a, "320"), api.OK)
	equipIs(t, s, a, "320", true)
	returns(t, s, resize(a, "747"), api.ErrNone)
	equipIs(t, s, a, "320", true)
	returns(t, s, resize(a, "100"), api.OK)
	equipIs(t, s, a, "100", true)
	returns(t, s, shut(a), api.OK)
	equipIs(t, s, a, "100", true)
	equipIs(t, s, from("CDG"), "", false)
	equipIs(t, s, api.LegId{}, "", false)
	// Also the leg whose fields are all empty.
	returns(t, s, open(api.LegId{}, "340"), api.OK)
	equipIs(t, s, api.LegId{}, "340", true)
}

func TestLegs(t *testing.T) {
	id := func(carrier string, number, day int, from string) api.LegId {
		return api.LegId{Carrier: carrier, Number: number, Day: day, From: from}
	}
	// In order.
	want := list(
		id("", 0, 0, ""),
		id("", 9, 9, "LHR"),
		id("0A", 9, 9, "LHR"),
		id("A", 9, 9, "LHR"),
		id("AF", 9999, 36524, "ZZZ"),
		id("BA", math.MinInt, 9, "LHR"),
		id("BA", -1, 9, "LHR"),
		id("BA", 1, 9, "LHR"),
		id("BA", 2, math.MinInt, "LHR"),
		id("BA", 2, -1, "LHR"),
		id("BA", 2, 0, "ZZZ"),
		id("BA", 2, 9, ""),
		id("BA", 2, 9, "A"),
		id("BA", 2, 9, "AAA"),
		id("BA", 2, 9, "AAAA"),
		id("BA", 2, 9, "AAB"),
		id("BA", 2, 9, "B"),
		id("BA", 2, 9, "LHR"),
		id("BA", 2, 9, "aaa"),
		id("BA", 2, 9, "ä"),
		id("BA", 2, 9, "\xff"),
		id("BA", 2, 10, "AAA"),
		id("BA", 2, 100, "AAA"),
		id("BA", 2, math.MaxInt, "AAA"),
		id("BA", 10, 3, "AAA"),
		id("BA", 100, 2, "AAA"),
		id("BA", math.MaxInt, 0, "AAA"),
		id("BB", 1, 1, "AAA"),
		id("ba", 0, 0, ""),
	)
	for seed := range 20 {
		next := numbers(uint64(seed))
		l := slices.Clone(want)
		for i := range l {
			k := next(i + 1)
			l[i], l[k] = l[k], l[i]
		}
		s := start(t, fleet())
		for i, id := range l {
			returns(t, s, open(id, one(next, fleet()).Equip), api.OK)
			if i%3 == 0 {
				returns(t, s, shut(id), api.OK)
			}
			if n := len(s.Legs()); n != i+1 {
				t.Errorf("there are %d legs, not %d", n, i+1)
			}
		}
		legsAre(t, s, want...)
		// Refused calls, sales and changes of the equipment add none.
		returns(t, s, open(from("JFK"), "747"), api.ErrNone)
		returns(t, s, resize(from("JFK"), "320"), api.ErrNone)
		returns(t, s, resize(want[3], "320"), api.OK)
		legsAre(t, s, want...)
		legsAre(t, s.Copy(), want...)
	}
	// Every pair of fields that are ordered differently.
	for i, a := range want {
		for _, b := range want[i+1:] {
			legsAre(t, after(t, fleet(), open(b, "320"), open(a, "320")), a, b)
			legsAre(t, after(t, fleet(), open(a, "320"), open(b, "320")), a, b)
		}
	}
}

// P15.3

func TestLimitsHoldWithoutResize(t *testing.T) {
	next := numbers(3)
	full := 0
	for i := range 300 {
		p := anyPair(t, next, i)
		for range 100 {
			c := anyCall(next, p.d)
			if c.kind == "resize" {
				continue
			}
			p.step(t, c)
			for id, l := range p.d.legs {
				excessIs(t, p.s, id, 0)
				sold := map[string]int{}
				for _, x := range p.s.Counts(id) {
					sold[x.Class] = x.Sold
				}
				for _, x := range l.config.Cabins {
					for rank := range x.Classes {
						if n := nested(x, sold, rank); n > limit(x, rank) {
							t.Fatalf("%d seats are sold in class %d of %v, and the ones after it", n, rank, x)
						}
					}
					if nested(x, sold, 0) == x.Seats+x.Over {
						full++
					}
				}
			}
		}
	}
	if full < 10000 {
		t.Errorf("only %d cabins are full", full)
	}
}

// P15.4

func TestLeftCanBeSold(t *testing.T) {
	next := numbers(4)
	most, exceeded := 0, 0
	for i := range 200 {
		p := anyPair(t, next, i)
		for range 80 {
			p.step(t, anyCall(next, p.d))
			before := answers(p.s)
			for _, id := range p.s.Legs() {
				if p.d.legs[id].closed {
					continue
				}
				for _, x := range p.s.Counts(id) {
					n := p.s.Left(id, x.Class)
					if e := p.s.Sell(list(id), x.Class, n+1); e != api.ErrClosed {
						t.Fatalf("%d seats are left, and Sell of one more returns %d", n, e)
					}
					if n < 1 {
						continue
					}
					for _, k := range list(n, 1+next(n)) {
						if e := p.s.Copy().Sell(list(id), x.Class, k); e != api.OK {
							t.Fatalf("%d seats are left, and Sell of %d returns %d", n, k, e)
						}
					}
					most++
					if p.s.Excess(id) > 0 {
						exceeded++
					}
				}
			}
			if answers(p.s) != before {
				t.Fatalf("sales that are refused change the answers %s to %s", before, answers(p.s))
			}
		}
	}
	if most < 50000 || exceeded < 500 {
		t.Errorf("seats are left in %d classes only, on a leg where limits are exceeded in %d", most, exceeded)
	}
}

// P15.5

func TestAllLegsAreSoldOrNone(t *testing.T) {
	next := numbers(5)
	count := map[bool]int{}
	for i := range 300 {
		p := anyPair(t, next, i)
		for range 50 {
			p.step(t, anyCall(next, p.d))
			some := p.s.Legs()
			if len(some) == 0 || next(8) == 0 {
				some = ids()
			}
			for i := range some {
				k := next(i + 1)
				some[i], some[k] = some[k], some[i]
			}
			some = some[:min(2+next(2), len(some))]
			class, n := one(next, classes()[:8]), 1+next(3)
			if counts := p.s.Counts(some[0]); len(counts) > 0 {
				class = one(next, counts).Class
			}
			want := true
			alone := p.s.Copy()
			for _, id := range some {
				want = want && alone.Sell(list(id), class, n) == api.OK
			}
			all := p.s.Copy()
			if e := all.Sell(some, class, n); (e == api.OK) != want {
				t.Fatalf("Sell(%v, %q, %d) returns %d", some, class, n, e)
			}
			if want && answers(all) != answers(alone) || !want && answers(all) != answers(p.s) {
				t.Fatalf("after Sell(%v, %q, %d), the answers are %s", some, class, n, answers(all))
			}
			if len(some) > 1 {
				count[want]++
			}
		}
	}
	if count[true] < 500 || count[false] < 5000 {
		t.Errorf("%d sales succeed, %d do not", count[true], count[false])
	}
}

// P15.6

func TestResizeKeepsTheNumberOfSeats(t *testing.T) {
	next := numbers(6)
	total := func(s *Stock, id api.LegId) int {
		n := 0
		for _, x := range s.Counts(id) {
			n += x.Sold
		}
		return n
	}
	greatest, resized := 0, 0
	for i := range 300 {
		p := anyPair(t, next, i)
		for range 100 {
			p.step(t, anyCall(next, p.d))
			id := one(next, ids())
			before := total(p.s, id)
			if p.step(t, resize(id, one(next, p.d.configs).Equip)) == api.OK {
				resized++
			}
			if n := total(p.s, id); n != before {
				t.Fatalf("after Resize, %d seats are sold, not %d", n, before)
			}
			greatest = max(greatest, before)
			p.check(t)
		}
	}
	if greatest < 2000 || resized < 10000 {
		t.Errorf("%d legs are resized, at most %d seats are sold", resized, greatest)
	}
}

// P15.7

func TestCopy(t *testing.T) {
	calls, legs := scene()
	changes := list(
		open(ids()[6], "320"), open(ids()[6], "100"), shut(legs[0]), shut(legs[3]), resize(legs[0], "319"), resize(legs[1], "340"), resize(legs[2], "320"), resize(legs[4], "777"),
		sell("Y", 1, legs[0]), sell("M", 2, legs[0]), sell("Z", 1, legs[3]), cancel("Y", 4, legs[0]), cancel("M", 1, legs[0], legs[1], legs[2]), cancel("F", 4, legs[2]), cancel("Z", 1, legs[3], legs[4]),
	)
	for _, c := range changes {
		s := after(t, fleet(), calls...)
		before := answers(s)
		first, second := s.Copy(), s.Copy()
		third := second.Copy()
		// None of them changes with another one.
		all := list(s, first, second, third)
		for i, x := range all {
			if answers(x) != before {
				t.Fatalf("a copy answers\n%s, not\n%s", answers(x), before)
			}
			returns(t, x, c, api.OK)
			for k, y := range all {
				if (answers(y) == before) != (k > i) {
					t.Fatalf("after %v on copy %d, copy %d answers\n%s, it was\n%s", c, i, k, answers(y), before)
				}
			}
		}
		for _, x := range all {
			if answers(x) != answers(s) {
				t.Errorf("after %v, a copy answers\n%s, not\n%s", c, answers(x), answers(s))
			}
		}
	}
	// The other way round: from the copies to what they are copies of.
	for _, c := range changes {
		s := after(t, fleet(), calls...)
		before := answers(s)
		first := s.Copy()
		second := first.Copy()
		for i, x := range list(second, first) {
			returns(t, x, c, api.OK)
			if answers(s) != before || i == 0 && answers(first) != before {
				t.Errorf("after %v on a copy, the answers are\n%s, not\n%s", c, answers(s), before)
			}
		}
	}
}

func TestCopyOfEmptyInventory(t *testing.T) {
	for _, l := range [][]api.Config{nil, fleet()} {
		s := start(t, l)
		c := s.Copy()
		if c == nil || c == s {
			t.Fatalf("Copy() = %v", c)
		}
		legsAre(t, c)
		returns(t, c, shut(from("LHR")), api.ErrNone)
		for _, x := range l {
			returns(t, c, open(from(x.Equip), x.Equip), api.OK)
		}
		returns(t, c, open(from("LHR"), "747"), api.ErrNone)
		legsAre(t, s)
		if n := len(c.Copy().Legs()); n != len(l) {
			t.Errorf("a copy has %d legs, not %d", n, len(l))
		}
	}
}

// All promises

// spare returns a copy of a list that has memory behind its end, which is a copy of its elements.
func spare[T any](l []T) []T { return append(slices.Clone(l), l...)[:len(l)] }

// whole returns a copy of a list with the memory behind its end.
func whole[T any](l []T) []T { return slices.Clone(l[:cap(l)]) }

// spares returns configurations all of whose lists have memory behind their ends.
func spares(l []api.Config) []api.Config {
	l = spare(l)
	for i := range l {
		l[i].Cabins = spare(l[i].Cabins)
		for k := range l[i].Cabins {
			l[i].Cabins[k].Classes = spare(l[i].Cabins[k].Classes)
		}
	}
	return l
}

// wreck changes every element of configurations.
func wreck(l []api.Config) {
	for _, c := range l {
		for _, x := range c.Cabins {
			clear(x.Classes[:cap(x.Classes)])
		}
		clear(c.Cabins[:cap(c.Cabins)])
	}
	clear(l[:cap(l)])
}

func TestArgumentsAreNotModified(t *testing.T) {
	given := spares(fleet())
	// text writes the lists with the memory behind their ends.
	text := func() string {
		b := fmt.Append(nil, whole(given))
		for _, c := range given {
			b = fmt.Append(b, whole(c.Cabins))
			for _, x := range c.Cabins {
				b = fmt.Append(b, whole(x.Classes))
			}
		}
		return string(b)
	}
	before := text()
	next := numbers(7)
	p := pair{start(t, given), define(fleet())}
	for range 3000 {
		c := anyCall(next, p.d)
		c.ids = spare(c.ids)
		l := whole(c.ids)
		p.step(t, c)
		if !slices.Equal(l, whole(c.ids)) {
			t.Fatalf("the legs of %v were modified", c)
		}
	}
	if l := text(); l != before {
		t.Errorf("the configurations were modified: %s, not %s", l, before)
	}
	// Also where there are violations.
	given = spares(append(fleet(), fleet()...))
	before = text()
	if s, _ := New(given); s != nil || text() != before {
		t.Errorf("the configurations were modified: %s, not %s", text(), before)
	}
}

func TestGivenListsAreNotKept(t *testing.T) {
	calls, _ := scene()
	for i := range len(calls) + 1 {
		given := spares(fleet())
		p := pair{start(t, given), define(fleet())}
		for k, c := range calls {
			if k == i {
				wreck(given)
			}
			c.ids = spare(c.ids)
			p.step(t, c)
			clear(c.ids[:cap(c.ids)])
			p.check(t)
		}
		wreck(given)
		p.check(t)
		p.step(t, open(ids()[6], "340"))
		p.step(t, resize(ids()[0], "319"))
		p.check(t)
		c := pair{p.s.Copy(), p.d.copy()}
		c.step(t, resize(ids()[0], "340"))
		c.check(t)
		p.check(t)
	}
}

func TestReturnedListsAreNotKept(t *testing.T) {
	calls, legs := scene()
	s := after(t, fleet(), calls...)
	before := answers(s)
	c := s.Copy()
	for _, x := range list(s, c) {
		for _, id := range legs {
			l, m := x.Counts(id), x.Counts(id)
			clear(l[:cap(l)])
			if answers(x) != before || !slices.Equal(m, x.Counts(id)) {
				t.Errorf("Counts(%v) shares memory", id)
			}
		}
		l, m := x.Legs(), x.Legs()
		clear(l[:cap(l)])
		if answers(x) != before || !slices.Equal(m, x.Legs()) {
			t.Error("Legs shares memory")
		}
	}
	if answers(s) != before || answers(c) != before {
		t.Error("a list is shared with a copy")
	}
	wrong := list(api.Config{}, api.Config{})
	_, l := New(wrong)
	_, m := New(wrong)
	clear(l[:cap(l)])
	if !slices.Equal(m, cabin.Check(wrong)) {
		t.Error("New shares memory")
	}
}

func TestQuestionsChangeNothing(t *testing.T) {
	calls, _ := scene()
	s := after(t, fleet(), calls...)
	before := answers(s)
	s.Copy()
	for range 3 {
		if l := answers(s); l != before {
			t.Errorf("the answers are %s, not %s", l, before)
		}
	}
	for _, id := range append(ids(), from("AAA"), from("")) {
		if s.Copy() == nil || len(s.Legs()) != 6 {
			t.Errorf("a question about %v changes the legs: %v", id, s.Legs())
		}
	}
}
