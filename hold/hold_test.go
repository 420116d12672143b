package hold

import (
	"math"
	"slices"
	"strconv"
	"testing"

	"airline/api"
)

// last is the last minute.
const last = 36525*1440 - 1

// list returns a list, to write it shortly.
func list[T any](l ...T) []T { return l }

// one returns one of the elements of a list.
func one[T any](next func(n int) int, l []T) T { return l[next(len(l))] }

// from returns a leg from an airport.
func from(airport string) api.LegId {
	return api.LegId{Carrier: "BA", Number: 117, Day: 9497, From: airport}
}

// ids returns the legs about which sets are asked: each one but the last differs in one field only from the first one.
func ids() []api.LegId {
	return list(
		from("LHR"),
		from("JFK"),
		api.LegId{Carrier: "AF", Number: 117, Day: 9497, From: "LHR"},
		api.LegId{Carrier: "BA", Number: 118, Day: 9497, From: "LHR"},
		api.LegId{Carrier: "BA", Number: 117, Day: 9498, From: "LHR"},
		from("lhr"),
		api.LegId{},
	)
}

// classes returns the classes about which sets are asked.
func classes() []string {
	return list("Y", "y", "M", "", "YM", "Y ", "economy, the best", "\x00", "\xff\xfe", "ä")
}

// many returns so many legs, each one of them different.
func many(n int) []api.LegId {
	var l []api.LegId
	for i := range n {
		l = append(l, api.LegId{Carrier: "BA", Number: i % 7, Day: i / 7, From: "LHR"})
	}
	return l
}

// numbers returns a source of numbers from 0 to n - 1 that look like chance.
func numbers(seed uint64) func(n int) int {
	return func(n int) int {
		seed = seed*6364136223846793005 + 1442695040888963407
		return int(seed >> 33 % uint64(n))
	}
}

// upTo calls f with all lists of up to a number of elements of a set.
func upTo[T any](set []T, most int, f func(l []T)) {
	f(nil)
	if most == 0 {
		return
	}
	for _, x := range set {
		upTo(set, most-1, func(l []T) { f(append([]T{x}, l...)) })
	}
}

// hold returns a hold.
func hold(id int, class string, count, until int, legs ...api.LegId) Hold {
	return Hold{Id: id, Legs: legs, Class: class, Count: count, Until: until}
}

// set is a Holds, or the definition of one.
type set interface {
	Put(x Hold) api.Errno
	Drop(id int) (Hold, api.Errno)
	Extend(id, until int) api.Errno
	Expire(now int) []Hold
	Held(id api.LegId, class string) int
	All() []Hold
}

// call is a call that can change a set. Minute is until or now.
type call struct {
	kind   string
	x      Hold
	id     int
	minute int
}

func put(x Hold) call { return call{kind: "put", x: x} }

func drop(id int) call { return call{kind: "drop", id: id} }

func extend(id, until int) call { return call{kind: "extend", id: id, minute: until} }

func expire(now int) call { return call{kind: "expire", minute: now} }

// on calls, and returns the error and the holds that are returned.
func (c call) on(s set) (api.Errno, []Hold) {
	switch c.kind {
	case "put":
		return s.Put(c.x), nil
	case "drop":
		x, e := s.Drop(c.id)
		return e, list(x)
	case "extend":
		return s.Extend(c.id, c.minute), nil
	}
	return api.OK, s.Expire(c.minute)
}

// text writes holds, so that different ones are different texts.
func text(l []Hold) string {
	var b []byte
	number := func(n int) { b = append(strconv.AppendInt(b, int64(n), 10), ' ') }
	for _, x := range l {
		number(x.Id)
		number(x.Count)
		number(x.Until)
		b = strconv.AppendQuote(b, x.Class)
		for _, id := range x.Legs {
			b = append(strconv.AppendQuote(b, id.Carrier), ' ')
			number(id.Number)
			number(id.Day)
			b = strconv.AppendQuote(b, id.From)
		}
		b = append(b, ';')
	}
	return string(b)
}

// answers returns what a set answers to all questions, for some legs.
func answers(s set) string {
	b := []byte(text(s.All()))
	for _, id := range append(ids(), from("AAA")) {
		for _, class := range classes() {
			b = append(strconv.AppendInt(b, int64(s.Held(id, class)), 10), ' ')
		}
	}
	return string(b)
}

// after returns a set after calls, none of which may have an error.
func after(t *testing.T, calls ...call) *Holds {
	t.Helper()
	h := New()
	for _, c := range calls {
		if e, _ := c.on(h); e != api.OK {
			t.Fatalf("%v returns %d", c, e)
		}
	}
	return h
}

// returns fails if a call does not return this error and these holds, or if it changes an answer together with an error.
func returns(t *testing.T, h *Holds, c call, want api.Errno, holds ...Hold) {
	t.Helper()
	if c.kind == "drop" && want != api.OK {
		holds = list(Hold{})
	}
	before := answers(h)
	e, l := c.on(h)
	if e != want || text(l) != text(holds) {
		t.Errorf("%v returns %d, %v, not %d, %v", c, e, l, want, holds)
	}
	if now := answers(h); want != api.OK && now != before {
		t.Errorf("%v returns %d and changes\n%s to\n%s", c, want, before, now)
	}
}

// allAre fails if a set has other holds, or has them in another order.
func allAre(t *testing.T, s set, want ...Hold) {
	t.Helper()
	if l := s.All(); text(l) != text(want) {
		t.Errorf("All() = %v, not %v", l, want)
	}
}

// orderIs fails if a set does not have the holds with these identifiers in this order.
func orderIs(t *testing.T, s set, want ...int) {
	t.Helper()
	var l []int
	for _, x := range s.All() {
		l = append(l, x.Id)
	}
	if !slices.Equal(l, want) {
		t.Errorf("All returns %v, not %v", l, want)
	}
}

// heldIs fails if another number of seats is held.
func heldIs(t *testing.T, s set, id api.LegId, class string, want int) {
	t.Helper()
	if n := s.Held(id, class); n != want {
		t.Errorf("Held(%v, %q) = %d, not %d", id, class, n, want)
	}
}

// The definitions of the chapter.

// defined is a set as it is described.
type defined struct{ holds []Hold }

func (d *defined) find(id int) int {
	return slices.IndexFunc(d.holds, func(x Hold) bool { return x.Id == id })
}

func (d *defined) Put(x Hold) api.Errno {
	if x.Id < 1 || len(x.Legs) == 0 || x.Count < 1 || x.Count > 99 || x.Until < 0 || x.Until > last {
		return api.ErrArg
	}
	for i, a := range x.Legs {
		for _, b := range x.Legs[:i] {
			if a.Carrier == b.Carrier && a.Number == b.Number && a.Day == b.Day && a.From == b.From {
				return api.ErrArg
			}
		}
	}
	if d.find(x.Id) >= 0 {
		return api.ErrTwice
	}
	x.Legs = append([]api.LegId{}, x.Legs...)
	d.holds = append(d.holds, x)
	return api.OK
}

func (d *defined) Drop(id int) (Hold, api.Errno) {
	i := d.find(id)
	if i < 0 {
		return Hold{}, api.ErrNone
	}
	x := d.holds[i]
	d.holds = slices.Delete(d.holds, i, i+1)
	return x, api.OK
}

func (d *defined) Extend(id, until int) api.Errno {
	i := d.find(id)
	switch {
	case i < 0:
		return api.ErrNone
	case until < 0 || until > last:
		return api.ErrArg
	}
	d.holds[i].Until = until
	return api.OK
}

func (d *defined) Expire(now int) []Hold {
	var l []Hold
	for _, x := range d.All() {
		if x.Until <= now {
			d.Drop(x.Id)
			l = append(l, x)
		}
	}
	return l
}

func (d *defined) Held(id api.LegId, class string) int {
	n := 0
	for _, x := range d.holds {
		for _, leg := range x.Legs {
			// Once for a hold at most, as none has a leg twice.
			if leg.Carrier == id.Carrier && leg.Number == id.Number && leg.Day == id.Day && leg.From == id.From && x.Class == class {
				n += x.Count
			}
		}
	}
	return n
}

func (d *defined) All() []Hold {
	var l []Hold
	for _, x := range d.holds {
		i := 0
		for i < len(l) && (l[i].Until < x.Until || l[i].Until == x.Until && l[i].Id < x.Id) {
			i++
		}
		l = slices.Insert(l, i, x)
	}
	return l
}

// pair is a set and the definition of it.
type pair struct {
	h *Holds
	d *defined
}

// start returns a set without holds.
func start() pair { return pair{New(), &defined{}} }

// step fails if a call does not return and do what is described, or does something together with an error; it returns the error.
func (p pair) step(t *testing.T, c call) api.Errno {
	t.Helper()
	before := answers(p.h)
	want, holds := c.on(p.d)
	e, l := c.on(p.h)
	if e != want || text(l) != text(holds) {
		t.Fatalf("%v returns %d, %v, not %d, %v", c, e, l, want, holds)
	}
	now := answers(p.h)
	if want != api.OK && now != before {
		t.Fatalf("%v returns %d and changes\n%s to\n%s", c, want, before, now)
	}
	if now != answers(p.d) {
		t.Fatalf("after %v, the answers are\n%s, not\n%s", c, now, answers(p.d))
	}
	return want
}

// wrongTimes and wrongCounts are numbers that are no minute, and that are no number of seats of a hold. Some of them are right in 16 or 32 bits.
func wrongTimes() []int {
	return list(-1, -2, -last, -1<<32, -1<<32+50, math.MinInt, math.MinInt+50, last+1, last+2, 1<<32, 1<<32+50, math.MaxInt-1, math.MaxInt)
}

func wrongCounts() []int {
	return list(0, -1, -2, -99, -1<<32, -1<<32+2, math.MinInt, math.MinInt+2, 100, 101, 1<<16+2, 1<<32, 1<<32+2, math.MaxInt-1, math.MaxInt)
}

func wrongIds() []int {
	return list(0, -1, -2, -1<<32, -1<<32+1, -math.MaxInt, math.MinInt)
}

// wrongLegs returns lists of legs that no hold has.
func wrongLegs() [][]api.LegId {
	l := [][]api.LegId{nil, {}, append(many(500), many(500)[499]), append(many(500), many(500)[0]), append(list(from("LHR")), append(many(300), from("LHR"))...)}
	for i, id := range ids() {
		l = append(l, list(id, id), list(id, id, id), append(ids(), id), append(list(id), ids()...))
		for k, other := range ids() {
			if k != i {
				l = append(l, list(id, other, id), list(id, id, other), list(other, id, id), list(other, id, from("AAA"), id))
			}
		}
	}
	return l
}

// anyHold returns a hold, mostly one that can be put into a set.
func anyHold(next func(n int) int) Hold {
	l := ids()
	for i := range l {
		k := next(i + 1)
		l[i], l[k] = l[k], l[i]
	}
	x := hold(1+next(12), one(next, classes()[:4]), 1+next(99), next(20), l[:1+next(3)]...)
	if next(4) > 0 {
		return x
	}
	switch next(7) {
	case 0:
		x.Id = one(next, wrongIds())
	case 1:
		x.Legs = one(next, wrongLegs()[5:])
	case 2:
		x.Legs = nil
	case 3:
		x.Count = one(next, wrongCounts())
	case 4:
		x.Until = one(next, wrongTimes())
	case 5:
		x.Id, x.Count, x.Until = math.MaxInt-next(2), 99, last-next(2)
	default:
		x.Class = one(next, classes())
	}
	return x
}

// anyCall returns a call, mostly one that does something.
func anyCall(next func(n int) int, d *defined) call {
	id := 1 + next(14)
	if len(d.holds) > 0 && next(3) > 0 {
		id = one(next, d.holds).Id
	}
	if next(20) == 0 {
		id = one(next, append(wrongIds(), math.MaxInt))
	}
	minute := next(20)
	if next(4) == 0 {
		minute = one(next, append(wrongTimes(), 0, last))
	}
	switch next(16) {
	case 0, 1:
		return drop(id)
	case 2, 3, 4, 5:
		return extend(id, minute)
	case 6:
		if minute = next(8); next(8) == 0 {
			minute = one(next, append(wrongTimes(), last, last-1, 20))
		}
		return expire(minute)
	}
	return put(anyHold(next))
}

// P16.1

func TestMixedCallsAreAsDefined(t *testing.T) {
	next := numbers(1)
	count := map[string]int{}
	most := 0
	for range 300 {
		// Two sets that do not depend on each other.
		pairs := list(start(), start())
		for range 150 {
			i := next(2)
			p, other := pairs[i], pairs[1-i]
			c := anyCall(next, p.d)
			before := len(p.d.holds)
			e := p.step(t, c)
			if count[c.kind+strconv.Itoa(int(e))]++; c.kind == "expire" {
				count["gone"] += before - len(p.d.holds)
			}
			most = max(most, len(p.d.holds))
			if l, want := answers(other.h), answers(other.d); l != want {
				t.Fatalf("after %v of another set, the answers are\n%s, not\n%s", c, l, want)
			}
		}
	}
	for _, e := range list("put0", "put2", "put6", "drop0", "drop7", "extend0", "extend2", "extend7", "expire0", "gone") {
		if count[e] < 500 {
			t.Errorf("%s occurs %d times", e, count[e])
		}
	}
	if most < 9 {
		t.Errorf("there are at most %d holds", most)
	}
}

// All sequences of a few calls.
func TestShortSequencesAreAsDefined(t *testing.T) {
	a, b := from("LHR"), from("JFK")
	calls := list(
		put(hold(1, "Y", 2, 50, a)), put(hold(1, "M", 3, 40, b, a)), put(hold(2, "Y", 1, 50, a, b)), put(hold(3, "Y", 99, 0, b)), put(hold(1, "Y", 0, 50, a)), put(hold(2, "Y", 1, 50, a, a)),
		drop(1), drop(2), extend(1, 60), extend(2, 40), extend(1, -1), expire(0), expire(40), expire(49), expire(50),
	)
	for _, first := range [][]call{{}, {calls[0], calls[2], calls[3]}} {
		upTo(calls, 4, func(then []call) {
			p := start()
			for _, c := range append(first, then...) {
				want, holds := c.on(p.d)
				if e, l := c.on(p.h); e != want || text(l) != text(holds) {
					t.Fatalf("%v of %v %v returns %d, %v, not %d, %v", c, first, then, e, l, want, holds)
				}
			}
			if l, want := answers(p.h), answers(p.d); l != want {
				t.Fatalf("after %v %v, the answers are\n%s, not\n%s", first, then, l, want)
			}
		})
	}
}

func TestExamples(t *testing.T) {
	leg := from("LHR")
	one, two := hold(1, "Y", 2, 50, leg), hold(2, "Y", 2, 40, leg)
	h := after(t, put(one), put(two))
	allAre(t, h, two, one)
	heldIs(t, h, leg, "Y", 4)
	returns(t, h, put(one), api.ErrTwice)
	returns(t, h, put(hold(1, "Y", 0, 50, leg)), api.ErrArg)
	returns(t, h, put(hold(3, "Y", 0, 50, leg)), api.ErrArg)
	returns(t, h, expire(40), api.OK, two)
	heldIs(t, h, leg, "Y", 2)
	allAre(t, h, one)
}

func TestNew(t *testing.T) {
	h := New()
	if h == nil {
		t.Fatal("New returns nil")
	}
	allAre(t, h)
	for _, id := range ids() {
		for _, class := range classes() {
			heldIs(t, h, id, class, 0)
		}
	}
	for _, now := range append(wrongTimes(), 0, 50, last) {
		returns(t, h, expire(now), api.OK)
	}
	for _, id := range append(wrongIds(), 1, 2, math.MaxInt) {
		returns(t, h, drop(id), api.ErrNone)
		returns(t, h, extend(id, 50), api.ErrNone)
	}
	// Another set does not change with this one.
	other := New()
	returns(t, h, put(hold(1, "Y", 2, 50, from("LHR"))), api.OK)
	allAre(t, other)
	allAre(t, New())
	returns(t, other, drop(1), api.ErrNone)
	returns(t, other, put(hold(1, "M", 3, 60, from("LHR"))), api.OK)
	allAre(t, h, hold(1, "Y", 2, 50, from("LHR")))
	returns(t, other, expire(last), api.OK, hold(1, "M", 3, 60, from("LHR")))
	allAre(t, h, hold(1, "Y", 2, 50, from("LHR")))
}

// right returns holds with different identifiers, each of which can be put into a set.
func right() []Hold {
	var l []Hold
	add := func(class string, count, until int, legs ...api.LegId) {
		l = append(l, hold(len(l)+1, class, count, until, legs...))
	}
	for _, class := range classes() {
		add(class, 2, 50, from("LHR"))
	}
	for count := 1; count <= 99; count++ {
		add("Y", count, 50, from("LHR"))
	}
	for _, until := range list(0, 1, 2, 39, 40, 1439, 1440, 1<<16-1, 1<<16, 1<<25, last-1, last) {
		add("Y", 2, until, from("LHR"))
	}
	// One leg, and several, which differ in one field only.
	for i, a := range ids() {
		add("Y", 2, 50, a)
		add("Y", 2, 50, append(ids()[i:], ids()[:i]...)...)
		for k, b := range ids() {
			if k != i {
				add("Y", 2, 50, a, b)
			}
		}
	}
	add("Y", 2, 50, many(3000)...)
	// Texts whose parts are the same one after the other.
	add("Y", 2, 50, api.LegId{Carrier: "A", From: "BC"}, api.LegId{Carrier: "AB", From: "C"}, api.LegId{Carrier: "ABC"}, api.LegId{From: "ABC"})
	add("Y", 2, 50, api.LegId{Number: 1, Day: 23}, api.LegId{Number: 12, Day: 3}, api.LegId{Number: 23, Day: 1}, api.LegId{Number: 3, Day: 12})
	add("Y", 2, 50, api.LegId{Number: math.MinInt}, api.LegId{Number: math.MaxInt}, api.LegId{Day: math.MinInt}, api.LegId{Day: math.MaxInt}, api.LegId{Day: 1 << 32}, api.LegId{Day: 0})
	add("Y", 2, 50, from(""), from("\x00"), from("\xff"), from("LHR "), from("LHR"))
	return l
}

func TestPut(t *testing.T) {
	all := New()
	for i, x := range right() {
		h := after(t, put(x))
		allAre(t, h, x)
		for _, id := range append(ids(), from("AAA")) {
			for _, class := range append(classes(), "no class") {
				want := 0
				if class == x.Class && slices.Contains(x.Legs, id) {
					want = x.Count
				}
				heldIs(t, h, id, class, want)
			}
		}
		returns(t, h, put(x), api.ErrTwice)
		returns(t, h, drop(x.Id), api.OK, x)
		allAre(t, h)
		if e := all.Put(x); e != api.OK || len(all.All()) != i+1 {
			t.Fatalf("Put(%v) returns %d", x, e)
		}
	}
	// Identifiers need not follow each other.
	for _, id := range list(1, 2, 9, 10, 1<<16, 1<<32, 1<<32+1, math.MaxInt-1, math.MaxInt) {
		x := hold(id, "Y", 2, 50, from("LHR"))
		h := after(t, put(x))
		allAre(t, h, x)
		returns(t, h, put(x), api.ErrTwice)
		returns(t, h, drop(id), api.OK, x)
		allAre(t, h)
	}
	h := after(t, put(hold(1<<32+1, "Y", 2, 50, from("LHR"))), put(hold(1, "Y", 3, 40, from("LHR"))), put(hold(1<<16+1, "Y", 4, 50, from("LHR"))))
	orderIs(t, h, 1, 1<<16+1, 1<<32+1)
}

// wrong returns holds that differ from a right one in one of these.
func wrong(x Hold) []Hold {
	var l []Hold
	add := func(change func(y *Hold)) {
		y := x
		change(&y)
		l = append(l, y)
	}
	for _, id := range wrongIds() {
		add(func(y *Hold) { y.Id = id })
	}
	for _, legs := range wrongLegs() {
		add(func(y *Hold) { y.Legs = legs })
	}
	for _, n := range wrongCounts() {
		add(func(y *Hold) { y.Count = n })
	}
	for _, until := range wrongTimes() {
		add(func(y *Hold) { y.Until = until })
	}
	return l
}

func TestPutOfWrongHolds(t *testing.T) {
	x := hold(1, "Y", 2, 50, from("LHR"), from("JFK"))
	for _, y := range wrong(x) {
		h := New()
		returns(t, h, put(y), api.ErrArg)
		allAre(t, h)
		// It leaves nothing behind.
		returns(t, h, put(x), api.OK)
		allAre(t, h, x)
		// Also if there is a hold with this identifier.
		returns(t, h, put(y), api.ErrArg)
		y.Class = "M"
		returns(t, h, put(y), api.ErrArg)
		y.Class = ""
		returns(t, h, put(y), api.ErrArg)
		allAre(t, h, x)
	}
	// Several at once.
	for _, y := range wrong(x) {
		for _, z := range list(hold(0, y.Class, y.Count, y.Until, y.Legs...), hold(y.Id, y.Class, 100, y.Until, y.Legs...), hold(y.Id, y.Class, y.Count, last+1, y.Legs...), hold(y.Id, y.Class, y.Count, y.Until)) {
			returns(t, New(), put(z), api.ErrArg)
			returns(t, after(t, put(x)), put(z), api.ErrArg)
		}
	}
	returns(t, New(), put(Hold{}), api.ErrArg)
	returns(t, after(t, put(x)), put(Hold{}), api.ErrArg)
}

func TestPutOfAnIdentifierThatIsThere(t *testing.T) {
	x := hold(7, "Y", 2, 50, from("LHR"))
	h := after(t, put(hold(6, "M", 1, 40, from("JFK"))), put(x), put(hold(8, "Y", 3, 60, from("LHR"))))
	// The same hold, and others.
	for _, y := range append(right(), x) {
		y.Id = 7
		returns(t, h, put(y), api.ErrTwice)
	}
	returns(t, h, extend(7, 70), api.OK)
	returns(t, h, put(x), api.ErrTwice)
	// Again after Drop.
	x.Until = 70
	returns(t, h, drop(7), api.OK, x)
	y := hold(7, "M", 5, 30, from("JFK"), from("LHR"))
	returns(t, h, put(y), api.OK)
	orderIs(t, h, 7, 6, 8)
	heldIs(t, h, from("JFK"), "M", 6)
	heldIs(t, h, from("LHR"), "Y", 3)
	returns(t, h, put(x), api.ErrTwice)
	// Again after Expire, also with an end that has passed.
	returns(t, h, expire(30), api.OK, y)
	returns(t, h, put(hold(6, "Y", 1, 30, from("LHR"))), api.ErrTwice)
	returns(t, h, put(y), api.OK)
	returns(t, h, put(y), api.ErrTwice)
	returns(t, h, expire(30), api.OK, y)
	returns(t, h, put(x), api.OK)
	allAre(t, h, hold(6, "M", 1, 40, from("JFK")), hold(8, "Y", 3, 60, from("LHR")), x)
	// A hold that was not put does not take its identifier.
	returns(t, h, put(hold(9, "Y", 100, 50, from("LHR"))), api.ErrArg)
	returns(t, h, put(hold(9, "Y", 99, 50, from("LHR"))), api.OK)
}

func TestDrop(t *testing.T) {
	for i, x := range right() {
		h := New()
		for _, y := range right() {
			if y.Id%20 == 3 || y.Id == x.Id {
				returns(t, h, put(y), api.OK)
			}
		}
		before := h.All()
		returns(t, h, drop(x.Id), api.OK, x)
		allAre(t, h, slices.DeleteFunc(before, func(y Hold) bool { return y.Id == x.Id })...)
		returns(t, h, drop(x.Id), api.ErrNone)
		returns(t, h, extend(x.Id, 50), api.ErrNone)
		returns(t, h, drop(len(right())+1+i), api.ErrNone)
	}
	x := hold(3, "Y", 2, 50, from("LHR"), from("JFK"))
	h := after(t, put(x), put(hold(5, "Y", 1, 50, from("LHR"))))
	for _, id := range append(wrongIds(), 1, 2, 4, 6, 1<<16+3, 1<<32+3, math.MaxInt, -3, -5) {
		returns(t, h, drop(id), api.ErrNone)
	}
	// As it was changed.
	returns(t, h, extend(3, last), api.OK)
	x.Until = last
	returns(t, h, drop(3), api.OK, x)
	heldIs(t, h, from("LHR"), "Y", 1)
	heldIs(t, h, from("JFK"), "Y", 0)
	returns(t, h, drop(5), api.OK, hold(5, "Y", 1, 50, from("LHR")))
	for _, id := range list(3, 5) {
		returns(t, h, drop(id), api.ErrNone)
	}
	allAre(t, h)
	returns(t, h, put(x), api.OK)
	allAre(t, h, x)
}

func TestExtend(t *testing.T) {
	a := from("LHR")
	h := after(t, put(hold(1, "Y", 2, 50, a)), put(hold(2, "M", 3, 60, a, from("JFK"))), put(hold(3, "Y", 4, 70, a)))
	for _, c := range []struct {
		id, until int
		order     []int
	}{
		{1, 55, list(1, 2, 3)},
		{1, 60, list(1, 2, 3)}, // at the same minute: in the order of the identifiers
		{1, 61, list(2, 1, 3)},
		{1, 71, list(2, 3, 1)},
		{1, 70, list(2, 1, 3)}, // to an earlier minute
		{1, 70, list(2, 1, 3)}, // to the same one
		{3, 60, list(2, 3, 1)},
		{3, 59, list(3, 2, 1)},
		{2, last, list(3, 1, 2)},
		{1, last, list(3, 1, 2)},
		{3, last, list(1, 2, 3)},
		{3, last - 1, list(3, 1, 2)},
		{2, 0, list(2, 3, 1)},
		{1, 0, list(1, 2, 3)},
		{1, 1, list(2, 1, 3)},
	} {
		returns(t, h, extend(c.id, c.until), api.OK)
		orderIs(t, h, c.order...)
		for _, x := range h.All() {
			if x.Id == c.id && x.Until != c.until {
				t.Errorf("after Extend(%d, %d), Until is %d", c.id, c.until, x.Until)
			}
		}
		heldIs(t, h, a, "Y", 6)
		heldIs(t, h, a, "M", 3)
	}
	// Nothing but the end has changed.
	allAre(t, h, hold(2, "M", 3, 0, a, from("JFK")), hold(1, "Y", 2, 1, a), hold(3, "Y", 4, last-1, a))
	// What Expire does follows the end.
	returns(t, h, extend(1, 100), api.OK)
	returns(t, h, expire(99), api.OK, hold(2, "M", 3, 0, a, from("JFK")))
	returns(t, h, extend(3, 99), api.OK)
	returns(t, h, expire(99), api.OK, hold(3, "Y", 4, 99, a))
	returns(t, h, expire(100), api.OK, hold(1, "Y", 2, 100, a))
}

func TestErrorsOfExtend(t *testing.T) {
	h := after(t, put(hold(3, "Y", 2, 50, from("LHR"))), put(hold(5, "Y", 2, 0, from("LHR"))), put(hold(6, "Y", 2, last, from("LHR"))))
	gone := append(wrongIds(), 1, 2, 4, 7, 1<<16+3, 1<<32+3, math.MaxInt, -3)
	for _, until := range append(wrongTimes(), 0, 1, 50, last) {
		for _, id := range gone {
			returns(t, h, extend(id, until), api.ErrNone)
		}
	}
	for _, until := range wrongTimes() {
		for _, id := range list(3, 5, 6) {
			returns(t, h, extend(id, until), api.ErrArg)
		}
	}
	for _, until := range list(0, 1, 1439, 1440, last-1, last) {
		for _, id := range list(3, 5, 6) {
			returns(t, h, extend(id, until), api.OK)
		}
		allAre(t, h, hold(3, "Y", 2, until, from("LHR")), hold(5, "Y", 2, until, from("LHR")), hold(6, "Y", 2, until, from("LHR")))
	}
	returns(t, h, drop(3), api.OK, hold(3, "Y", 2, last, from("LHR")))
	returns(t, h, extend(3, 50), api.ErrNone)
	returns(t, h, extend(3, -1), api.ErrNone)
	h.Expire(last)
	returns(t, h, extend(5, 50), api.ErrNone)
	returns(t, h, extend(5, last+1), api.ErrNone)
}

// ends returns holds with these ends, the identifiers of which begin with 1.
func ends(untils ...int) []Hold {
	var l []Hold
	for i, until := range untils {
		l = append(l, hold(i+1, "Y", i%99+1, until, from("LHR")))
	}
	return l
}

// with returns a set with these holds.
func with(t *testing.T, l []Hold) *Holds {
	t.Helper()
	var calls []call
	for _, x := range l {
		calls = append(calls, put(x))
	}
	return after(t, calls...)
}

func TestExpire(t *testing.T) {
	l := ends(50, 40, 60, 50, 0, last, 40, 50)
	for _, c := range []struct {
		now         int
		gone, stays []int
	}{
		{math.MinInt, nil, list(5, 2, 7, 1, 4, 8, 3, 6)},
		{-1 << 32, nil, list(5, 2, 7, 1, 4, 8, 3, 6)},
		{-1, nil, list(5, 2, 7, 1, 4, 8, 3, 6)},
		{0, list(5), list(2, 7, 1, 4, 8, 3, 6)},
		{1, list(5), list(2, 7, 1, 4, 8, 3, 6)},
		{39, list(5), list(2, 7, 1, 4, 8, 3, 6)},
		{40, list(5, 2, 7), list(1, 4, 8, 3, 6)},
		{41, list(5, 2, 7), list(1, 4, 8, 3, 6)},
		{49, list(5, 2, 7), list(1, 4, 8, 3, 6)},
		{50, list(5, 2, 7, 1, 4, 8), list(3, 6)},
		{51, list(5, 2, 7, 1, 4, 8), list(3, 6)},
		{59, list(5, 2, 7, 1, 4, 8), list(3, 6)},
		{60, list(5, 2, 7, 1, 4, 8, 3), list(6)},
		{61, list(5, 2, 7, 1, 4, 8, 3), list(6)},
		{last - 1, list(5, 2, 7, 1, 4, 8, 3), list(6)},
		{last, list(5, 2, 7, 1, 4, 8, 3, 6), nil},
		{last + 1, list(5, 2, 7, 1, 4, 8, 3, 6), nil},
		{1 << 32, list(5, 2, 7, 1, 4, 8, 3, 6), nil},
		{math.MaxInt, list(5, 2, 7, 1, 4, 8, 3, 6), nil},
	} {
		h := with(t, l)
		var gone []Hold
		held := 36
		for _, id := range c.gone {
			gone = append(gone, l[id-1])
			held -= l[id-1].Count
		}
		returns(t, h, expire(c.now), api.OK, gone...)
		orderIs(t, h, c.stays...)
		heldIs(t, h, from("LHR"), "Y", held)
		// Once only, also at an earlier minute.
		returns(t, h, expire(c.now), api.OK)
		returns(t, h, expire(-1), api.OK)
		orderIs(t, h, c.stays...)
		for _, id := range c.gone {
			returns(t, h, drop(id), api.ErrNone)
			returns(t, h, extend(id, 50), api.ErrNone)
		}
		for _, id := range c.stays {
			returns(t, h, put(l[id-1]), api.ErrTwice)
			returns(t, h, drop(id), api.OK, l[id-1])
		}
		allAre(t, h)
	}
}

func TestExpireOfOneHold(t *testing.T) {
	for _, until := range list(0, 1, 50, 1<<16, last-1, last) {
		for _, now := range list(math.MinInt, until-1<<32, -1, until-1, until, until+1, until+1<<32, last, math.MaxInt) {
			h := with(t, ends(until))
			if until <= now {
				returns(t, h, expire(now), api.OK, ends(until)...)
				allAre(t, h)
			} else {
				returns(t, h, expire(now), api.OK)
				allAre(t, h, ends(until)...)
			}
		}
	}
}

func TestHeld(t *testing.T) {
	a, b := from("LHR"), from("JFK")
	h := after(t, put(hold(1, "Y", 2, 50, a, b)), put(hold(2, "Y", 3, 40, a)), put(hold(3, "y", 5, 40, a)), put(hold(4, "", 7, 40, b)), put(hold(5, "M", 99, 40, b)), put(hold(6, "Y", 99, last, b)), put(hold(7, "Y", 1, 0, append(list(from("CDG")), ids()[2:]...)...)))
	heldIs(t, h, a, "Y", 5)
	heldIs(t, h, b, "Y", 101)
	heldIs(t, h, a, "y", 5)
	heldIs(t, h, b, "y", 0)
	heldIs(t, h, a, "", 0)
	heldIs(t, h, b, "", 7)
	heldIs(t, h, a, "M", 0)
	heldIs(t, h, b, "M", 99)
	heldIs(t, h, from("CDG"), "Y", 1)
	for _, id := range ids()[2:] {
		heldIs(t, h, id, "Y", 1)
		heldIs(t, h, id, "y", 0)
		heldIs(t, h, id, "M", 0)
	}
	// No such class, and no such leg.
	for _, class := range list("m", "X", "YM", "Y ", " Y", "\x00", "Y\x00", "\xff", "yy") {
		heldIs(t, h, a, class, 0)
		heldIs(t, h, b, class, 0)
	}
	for _, id := range list(from("AAA"), from(""), from("LHR "), from("lh"), api.LegId{Carrier: "ba", Number: 117, Day: 9497, From: "LHR"}, api.LegId{Carrier: "BA", Number: -117, Day: 9497, From: "LHR"}, api.LegId{Carrier: "BA", Number: 117, Day: 9496, From: "LHR"}, api.LegId{Carrier: "BA", Number: 9497, Day: 117, From: "LHR"}, api.LegId{Carrier: "LHR", Number: 117, Day: 9497, From: "BA"}) {
		for _, class := range list("Y", "y", "", "M") {
			heldIs(t, h, id, class, 0)
		}
	}
	// After each of these, what remains.
	returns(t, h, extend(1, 10), api.OK)
	heldIs(t, h, a, "Y", 5)
	returns(t, h, drop(2), api.OK, hold(2, "Y", 3, 40, a))
	heldIs(t, h, a, "Y", 2)
	returns(t, h, expire(10), api.OK, hold(7, "Y", 1, 0, append(list(from("CDG")), ids()[2:]...)...), hold(1, "Y", 2, 10, a, b))
	heldIs(t, h, a, "Y", 0)
	heldIs(t, h, b, "Y", 99)
	heldIs(t, h, a, "y", 5)
	heldIs(t, h, from("CDG"), "Y", 0)
}

func TestAllIsInOrder(t *testing.T) {
	want := list(
		hold(1, "Y", 1, 0, from("LHR")),
		hold(2, "Z", 99, 0, from("AAA")),
		hold(10, "A", 1, 0, from("LHR")),
		hold(math.MaxInt, "A", 1, 0, from("LHR")),
		hold(100, "A", 5, 1, from("LHR")),
		hold(9, "Y", 1, 9, from("LHR"), from("JFK")),
		hold(4, "Y", 1, 10, from("LHR")),
		hold(30, "", 9, 10, from("LHR")),
		hold(200, "Y", 8, 10, from("LHR")),
		hold(1<<32+1, "Y", 7, 10, from("LHR")),
		hold(math.MaxInt-1, "Y", 6, 10, from("LHR")),
		hold(3, "Y", 1, 100, from("LHR")),
		hold(1<<16, "Y", 1, 1<<16, from("LHR")),
		hold(5, "Y", 1, last-1, from("LHR")),
		hold(6, "Y", 1, last, from("LHR")),
		hold(7, "Y", 1, last, from("LHR")),
	)
	for seed := range 50 {
		next := numbers(uint64(seed))
		l := slices.Clone(want)
		for i := range l {
			k := next(i + 1)
			l[i], l[k] = l[k], l[i]
		}
		h := with(t, l)
		// As often as it is asked.
		for range 5 {
			allAre(t, h, want...)
		}
		// The ends do not depend on the order of the calls either.
		for _, x := range l {
			returns(t, h, extend(x.Id, 50), api.OK)
		}
		orderIs(t, h, 1, 2, 3, 4, 5, 6, 7, 9, 10, 30, 100, 200, 1<<16, 1<<32+1, math.MaxInt-1, math.MaxInt)
		for i := range l {
			x := l[len(l)-1-i]
			returns(t, h, extend(x.Id, x.Until), api.OK)
		}
		allAre(t, h, want...)
		returns(t, h, expire(math.MaxInt), api.OK, want...)
	}
	// Every pair.
	for i, a := range want {
		for _, b := range want[i+1:] {
			allAre(t, after(t, put(a), put(b)), a, b)
			allAre(t, after(t, put(b), put(a)), a, b)
			returns(t, after(t, put(b), put(a)), expire(last), api.OK, a, b)
		}
	}
}

func TestManyHolds(t *testing.T) {
	const n = 20000
	h := New()
	total := 0
	for i := range n {
		id := i*7919%n + 1
		if e := h.Put(hold(id, "Y", id%99+1, id%1000, from("LHR"), api.LegId{Number: id})); e != api.OK {
			t.Fatalf("Put of the hold %d returns %d", id, e)
		}
		total += id%99 + 1
	}
	heldIs(t, h, from("LHR"), "Y", total)
	heldIs(t, h, api.LegId{Number: 5000}, "Y", 5000%99+1)
	l := h.All()
	if len(l) != n {
		t.Fatalf("there are %d holds", len(l))
	}
	for i, x := range l {
		// Twenty holds end at each minute; with the identifier 1000 the first one at the minute 0.
		if until, k := i/20, i%20; x.Until != until || x.Id != until+1000*k && (until > 0 || x.Id != 1000*(k+1)) {
			t.Fatalf("hold %d of All is %v", i, x)
		}
	}
	if gone := h.Expire(499); len(gone) != n/2 || text(gone) != text(l[:n/2]) || text(h.All()) != text(l[n/2:]) {
		t.Errorf("Expire returns %d holds", len(gone))
	}
	for _, x := range l[:n/2] {
		total -= x.Count
	}
	heldIs(t, h, from("LHR"), "Y", total)
}

func TestQuestionsChangeNothing(t *testing.T) {
	h := New()
	for _, x := range right() {
		returns(t, h, put(x), api.OK)
	}
	before := answers(h)
	for range 3 {
		if l := answers(h); l != before {
			t.Errorf("the answers are %s, not %s", l, before)
		}
	}
	if l := h.All(); text(l) != text(h.Expire(math.MaxInt)) {
		t.Errorf("All returns %v", l)
	}
}

// P16.2

func TestHeldIsTheSumOverAll(t *testing.T) {
	next := numbers(2)
	several := 0
	for range 200 {
		h := New()
		for range 150 {
			anyCall(next, &defined{h.All()}).on(h)
			all := h.All()
			for _, id := range append(ids(), from("AAA")) {
				for _, class := range classes() {
					sum, n := 0, 0
					for _, x := range all {
						for _, leg := range x.Legs {
							if leg == id && x.Class == class {
								sum += x.Count
								n++
							}
						}
					}
					heldIs(t, h, id, class, sum)
					if n > 1 {
						several++
					}
				}
			}
		}
	}
	if several < 50000 {
		t.Errorf("only %d times, several holds are on a leg", several)
	}
}

// P16.3

func TestExpireDividesTheHolds(t *testing.T) {
	next := numbers(3)
	count := map[string]int{}
	for range 2000 {
		p := start()
		for range 30 {
			if c := anyCall(next, p.d); c.kind != "expire" || next(4) == 0 {
				p.step(t, c)
			}
		}
		now := next(24) - 2
		if next(16) == 0 {
			now = one(next, append(wrongTimes(), last, last-1))
		}
		before := p.h.All()
		gone := p.h.Expire(now)
		stays := p.h.All()
		for _, x := range gone {
			if x.Until > now {
				t.Fatalf("Expire(%d) returns %v", now, x)
			}
		}
		for _, x := range stays {
			if x.Until <= now {
				t.Fatalf("Expire(%d) leaves %v", now, x)
			}
		}
		// The ones that end first are those that were returned.
		if l := append(slices.Clone(gone), stays...); text(l) != text(before) {
			t.Fatalf("Expire(%d) divides\n%v into\n%v and\n%v", now, before, gone, stays)
		}
		switch {
		case len(gone) == 0:
			count["none"]++
		case len(stays) == 0:
			count["all"]++
		default:
			count["some"]++
		}
	}
	if count["none"] < 100 || count["all"] < 100 || count["some"] < 1000 {
		t.Errorf("%v", count)
	}
}

// P16.4

// isVoid fails if a set that New did not return has other errors than ErrNil, or an answer.
func isVoid(t *testing.T, h *Holds) {
	t.Helper()
	nothing := answers(&defined{})
	check := func() {
		t.Helper()
		if l := answers(h); l != nothing || len(h.All()) != 0 {
			t.Errorf("the answers are %s", l)
		}
		for _, now := range append(wrongTimes(), 0, 50, last) {
			if l := h.Expire(now); len(l) != 0 {
				t.Errorf("Expire(%d) = %v", now, l)
			}
		}
	}
	check()
	for _, x := range append(right(), wrong(right()[0])...) {
		returns(t, h, put(x), api.ErrNil)
	}
	returns(t, h, put(Hold{}), api.ErrNil)
	for _, id := range append(wrongIds(), 1, 2, math.MaxInt) {
		returns(t, h, drop(id), api.ErrNil)
		for _, until := range append(wrongTimes(), 0, 50, last) {
			returns(t, h, extend(id, until), api.ErrNil)
		}
	}
	check()
}

func TestSetThatNewDidNotReturn(t *testing.T) {
	isVoid(t, nil)
	isVoid(t, &Holds{})
	isVoid(t, new(Holds))
	var h Holds
	isVoid(t, &h)
	var none *Holds
	isVoid(t, none)
	// A set of New is one, also after it has lost its holds.
	x := hold(1, "Y", 2, 50, from("LHR"))
	s := after(t, put(x), drop(1), put(x), expire(50))
	returns(t, s, drop(1), api.ErrNone)
	returns(t, s, put(x), api.OK)
	allAre(t, s, x)
}

// All promises

// spare returns a copy of a list that has memory behind its end, which is a copy of its elements.
func spare[T any](l []T) []T { return append(slices.Clone(l), l...)[:len(l)] }

// whole returns a copy of a list with the memory behind its end.
func whole[T any](l []T) []T { return slices.Clone(l[:cap(l)]) }

// wreck changes every element of holds and of their lists, also behind their ends.
func wreck(l []Hold) {
	for _, x := range l[:cap(l)] {
		for i := range x.Legs[:cap(x.Legs)] {
			x.Legs[:cap(x.Legs)][i] = from("XXX")
		}
	}
	clear(l[:cap(l)])
}

func TestArgumentsAreNotModified(t *testing.T) {
	next := numbers(4)
	p := start()
	for range 5000 {
		c := anyCall(next, p.d)
		c.x.Legs = spare(c.x.Legs)
		before, l := text(list(c.x)), whole(c.x.Legs)
		p.step(t, c)
		if text(list(c.x)) != before || !slices.Equal(l, whole(c.x.Legs)) {
			t.Fatalf("the legs of %v were modified", c)
		}
		if next(40) == 0 {
			p.step(t, expire(last))
		}
	}
	// Also legs that are given in descending order, and one of which occurs twice.
	for _, l := range append(wrongLegs(), many(50)) {
		slices.Reverse(l)
		l = spare(l)
		before := whole(l)
		New().Put(hold(1, "Y", 1, 1, l...))
		if !slices.Equal(before, whole(l)) {
			t.Errorf("the legs %v were modified", before)
		}
	}
}

func TestGivenListsAreNotKept(t *testing.T) {
	for _, x := range right() {
		y := x
		y.Legs = spare(x.Legs)
		h := after(t, put(y))
		// Neither the legs, nor the memory behind them, nor the same list for several holds.
		z := y
		z.Id = math.MaxInt
		returns(t, h, put(z), api.OK)
		wreck(list(y))
		z.Legs = x.Legs
		allAre(t, h, x, z)
		heldIs(t, h, from("XXX"), x.Class, 0)
		returns(t, h, drop(x.Id), api.OK, x)
		returns(t, h, expire(x.Until), api.OK, z)
	}
	// A hold that was refused leaves none either.
	x := hold(1, "Y", 2, 50, from("LHR"))
	h := after(t, put(x))
	y := hold(1, "Y", 2, 50, from("JFK"), from("CDG"))
	returns(t, h, put(y), api.ErrTwice)
	wreck(list(y))
	allAre(t, h, x)
}

// apart fails if two holds share memory. It wrecks them.
func apart(t *testing.T, l ...Hold) {
	t.Helper()
	for i := range l {
		rest := text(l[i+1:])
		wreck(l[i : i+1 : i+1])
		if text(l[i+1:]) != rest {
			t.Error("two holds share memory")
		}
	}
}

func TestReturnedListsAreNotShared(t *testing.T) {
	// Several results of All, the holds of one of them, and the set. The holds were given with the same list.
	same := ids()[:3]
	h := after(t, put(hold(1, "Y", 2, 40, same...)), put(hold(2, "Y", 2, 40, same...)), put(hold(3, "Y", 2, 60, same...)))
	before := answers(h)
	apart(t, slices.Concat(h.All(), h.All(), h.All())...)
	if answers(h) != before {
		t.Error("All shares memory with the set")
	}
	// What Expire and Drop return, and what All returned before.
	all := h.All()
	x, _ := h.Drop(2)
	gone := h.Expire(40)
	before = answers(h)
	apart(t, slices.Concat(all, list(x), gone, h.All())...)
	if answers(h) != before {
		t.Error("Drop or Expire shares memory with the set")
	}
	// What All returns, also behind the end of the list.
	h = with(t, right())
	before = answers(h)
	wreck(h.All())
	apart(t, h.All()...)
	if answers(h) != before {
		t.Error("All shares memory with the set")
	}
	apart(t, with(t, right()).Expire(last)...)
	for _, x := range right() {
		y, _ := h.Drop(x.Id)
		before := answers(h)
		wreck(list(y))
		if answers(h) != before {
			t.Fatalf("Drop(%d) shares memory with the set", x.Id)
		}
	}
	for _, now := range list(-1, 0, 40, 50, last-1, last) {
		h := with(t, right())
		all := h.All()
		want := text(all)
		gone := h.Expire(now)
		before := answers(h)
		wreck(gone)
		if answers(h) != before || text(all) != want {
			t.Fatalf("Expire(%d) shares memory", now)
		}
	}
	// A hold that was returned can be put again, and is not kept.
	h = after(t, put(hold(1, "Y", 2, 40, same...)))
	x, _ = h.Drop(1)
	returns(t, h, put(x), api.OK)
	before = answers(h)
	wreck(list(x))
	if answers(h) != before {
		t.Error("a list that was returned is kept")
	}
}
