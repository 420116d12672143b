package money

import (
	"math"
	"math/big"
	"slices"
	"strings"
	"testing"

	"airline/api"
)

const most = api.MaxMoney

// numbers returns small numbers, the bounds of amounts and of ints, and numbers close to all of them.
func numbers() []int {
	l := []int{-123456789012, -12345678, -15000, -10001, -10000, -9999, -5000, -150, 150, 4999, 5000, 5001, 9999, 10000, 10001, 15000, 12345678, 123456789012, most / 2, -most / 2}
	for d := range 4 {
		l = append(l, d, -d, most-d, most+d, -most+d, -most-d, math.MaxInt-d, math.MinInt+d)
	}
	return l
}

func large(n int) *big.Int { return big.NewInt(int64(n)) }

func isLargeAmount(n *big.Int) bool {
	return n.CmpAbs(large(most)) <= 0
}

// floor returns a / b, rounded down, for a positive b.
func floor(a, b *big.Int) *big.Int { return new(big.Int).Div(a, b) }

// checkResult compares a result with the exact number, which is the result if it and the arguments are amounts.
func checkResult(t *testing.T, name string, a, b int, exact *big.Int, got int, e api.Errno) {
	t.Helper()
	want, wantError := 0, api.ErrOver
	if isLargeAmount(large(a)) && isLargeAmount(large(b)) && isLargeAmount(exact) {
		want, wantError = int(exact.Int64()), api.OK
	}
	if got != want || e != wantError {
		t.Errorf("%s(%d, %d) = %d, %d, not %d, %d", name, a, b, got, e, want, wantError)
	}
}

type operation struct {
	a, b, want int
	e          api.Errno
}

func checkOperations(t *testing.T, name string, f func(a, b int) (int, api.Errno), cases []operation) {
	t.Helper()
	for _, c := range cases {
		if got, e := f(c.a, c.b); got != c.want || e != c.e {
			t.Errorf("%s(%d, %d) = %d, %d", name, c.a, c.b, got, e)
		}
	}
}

// P2.1

func TestAdd(t *testing.T) {
	checkOperations(t, "Add", Add, []operation{
		{250, -100, 150, api.OK},
		{0, 0, 0, api.OK},
		{1, 2, 3, api.OK},
		{-1, -2, -3, api.OK},
		{most, 0, most, api.OK},
		{-most, 0, -most, api.OK},
		{most - 1, 1, most, api.OK},
		{1 - most, -1, -most, api.OK},
		{most, -most, 0, api.OK},
		{most, 1, 0, api.ErrOver},
		{-most, -1, 0, api.ErrOver},
		{most + 1, -1, 0, api.ErrOver},
		{-1, most + 1, 0, api.ErrOver},
		{-most - 1, 1, 0, api.ErrOver},
		{1, -most - 1, 0, api.ErrOver},
		{math.MaxInt, math.MinInt, 0, api.ErrOver},
		{math.MinInt, math.MinInt, 0, api.ErrOver},
		{math.MaxInt, math.MaxInt, 0, api.ErrOver},
		{0, math.MinInt, 0, api.ErrOver},
	})
}

func TestSub(t *testing.T) {
	checkOperations(t, "Sub", Sub, []operation{
		{250, 100, 150, api.OK},
		{100, 250, -150, api.OK},
		{5, -5, 10, api.OK},
		{most, most, 0, api.OK},
		{-most, -most, 0, api.OK},
		{0, most, -most, api.OK},
		{0, -most, most, api.OK},
		{-most, 1, 0, api.ErrOver},
		{most, -1, 0, api.ErrOver},
		{5, most + 1, 0, api.ErrOver},
		{most + 1, 5, 0, api.ErrOver},
		{-5, -most - 1, 0, api.ErrOver},
		{0, math.MinInt, 0, api.ErrOver},
		{-1, math.MinInt, 0, api.ErrOver},
		{math.MinInt, math.MinInt, 0, api.ErrOver},
		{math.MaxInt, math.MaxInt, 0, api.ErrOver},
	})
}

func TestSum(t *testing.T) {
	for _, c := range []struct {
		l    []int
		want int
		e    api.Errno
	}{
		{nil, 0, api.OK},
		{[]int{}, 0, api.OK},
		{[]int{7}, 7, api.OK},
		{[]int{1, 2, 3}, 6, api.OK},
		{[]int{-most}, -most, api.OK},
		{[]int{most, -most, most, -1}, most - 1, api.OK},
		{[]int{most, -1, 1}, most, api.OK},
		{[]int{-most, 1, -1}, -most, api.OK},
		{[]int{most, 1, -1}, 0, api.ErrOver},
		{[]int{-most, -1, 1}, 0, api.ErrOver},
		{[]int{most, 1}, 0, api.ErrOver},
		{[]int{most + 1}, 0, api.ErrOver},
		{[]int{-most - 1}, 0, api.ErrOver},
		{[]int{-1, most + 1}, 0, api.ErrOver},
		{[]int{1, 2, -most - 1}, 0, api.ErrOver},
		{[]int{math.MaxInt, math.MinInt}, 0, api.ErrOver},
		{[]int{math.MinInt, math.MinInt}, 0, api.ErrOver},
		{[]int{0, math.MinInt}, 0, api.ErrOver},
	} {
		if got, e := Sum(c.l...); got != c.want || e != c.e {
			t.Errorf("Sum(%d) = %d, %d", c.l, got, e)
		}
	}
	many := slices.Repeat([]int{3}, 100000)
	if got, e := Sum(many...); got != 300000 || e != api.OK {
		t.Error(got, e)
	}
}

func TestPercent(t *testing.T) {
	checkOperations(t, "Percent", Percent, []operation{
		{150, 5000, 75, api.OK},
		{1, 5000, 1, api.OK},
		{-1, 5000, 0, api.OK},
		{1, -5000, 0, api.OK},
		{-1, -5000, 1, api.OK},
		{3, 5000, 2, api.OK},
		{-3, 5000, -1, api.OK},
		{1, 4999, 0, api.OK},
		{-1, 4999, 0, api.OK},
		{-1, 5001, -1, api.OK},
		{1, 5001, 1, api.OK},
		{1, 15000, 2, api.OK},
		{-1, 15000, -1, api.OK},
		{0, 10000, 0, api.OK},
		{77, 0, 0, api.OK},
		{-77, 0, 0, api.OK},
		{1, most, 109951163, api.OK},
		{-1, most, -109951163, api.OK},
		{most, 1, 109951163, api.OK},
		{most, 10000, most, api.OK},
		{most, -10000, -most, api.OK},
		{10000, most, most, api.OK},
		{most, 10001, 0, api.ErrOver},
		{-most, 10001, 0, api.ErrOver},
		{10001, most, 0, api.ErrOver},
		{most, most, 0, api.ErrOver},
		{-most, most, 0, api.ErrOver},
		{0, most + 1, 0, api.ErrOver},
		{0, -most - 1, 0, api.ErrOver},
		{most + 1, 0, 0, api.ErrOver},
		{-most - 1, 0, 0, api.ErrOver},
		{math.MinInt, 0, 0, api.ErrOver},
		{math.MaxInt, 1, 0, api.ErrOver},
		{1, math.MinInt, 0, api.ErrOver},
	})
}

func TestPercentAtTheBounds(t *testing.T) {
	// 150 percent of this amount are the greatest amount and a half.
	a := (2*most + 1) / 3
	checkOperations(t, "Percent", Percent, []operation{
		{a, 15000, 0, api.ErrOver},
		{-a, -15000, 0, api.ErrOver},
		{-a, 15000, -most, api.OK},
		{a, -15000, -most, api.OK},
		{a - 1, 15000, most - 1, api.OK},
		{1 - a, 15000, 1 - most, api.OK},
		{-a - 1, 15000, 0, api.ErrOver},
		{a + 1, -15000, 0, api.ErrOver},
		// This quotient is 2^64, of which the lower 64 bits are 0.
		{1 << 39, 10000 << 25, 0, api.ErrOver},
		// This one is negative as an int, and near zero.
		{1 << 39, 10000<<25 - 1, 0, api.ErrOver},
	})
}

func TestUp(t *testing.T) {
	checkOperations(t, "Up", Up, []operation{
		{101, 100, 200, api.OK},
		{-101, 100, -100, api.OK},
		{100, 100, 100, api.OK},
		{-100, 100, -100, api.OK},
		{199, 100, 200, api.OK},
		{-199, 100, -100, api.OK},
		{-1, 100, 0, api.OK},
		{1, 100, 100, api.OK},
		{0, 7, 0, api.OK},
		{13, 1, 13, api.OK},
		{-13, 1, -13, api.OK},
		{most, 1, most, api.OK},
		{most, 2, most, api.OK},
		{most, most, most, api.OK},
		{1, most, most, api.OK},
		{-most, most, -most, api.OK},
		{-most, math.MaxInt, 0, api.OK},
		{-1, math.MaxInt, 0, api.OK},
		{0, math.MaxInt, 0, api.OK},
		{most, 3, 0, api.ErrOver},
		{-most, 3, -most + 1, api.OK},
		{1, most + 1, 0, api.ErrOver},
		{1, math.MaxInt, 0, api.ErrOver},
		{most, math.MaxInt, 0, api.ErrOver},
		{most + 1, 1, 0, api.ErrOver},
		{-most - 1, 1, 0, api.ErrOver},
		// The result would be an amount, but a is none.
		{-most - 1, 3, 0, api.ErrOver},
		{math.MinInt, math.MaxInt, 0, api.ErrOver},
		{math.MaxInt, 1, 0, api.ErrOver},
		{1, 0, 0, api.ErrArg},
		{1, -1, 0, api.ErrArg},
		{1, math.MinInt, 0, api.ErrArg},
		{most + 1, 0, 0, api.ErrArg},
		{math.MinInt, -1, 0, api.ErrArg},
	})
}

func TestAddAndSubOfAllNumbers(t *testing.T) {
	for _, a := range numbers() {
		for _, b := range numbers() {
			got, e := Add(a, b)
			checkResult(t, "Add", a, b, new(big.Int).Add(large(a), large(b)), got, e)
			got, e = Sum(a, b)
			checkResult(t, "Sum", a, b, new(big.Int).Add(large(a), large(b)), got, e)
			got, e = Sub(a, b)
			checkResult(t, "Sub", a, b, new(big.Int).Sub(large(a), large(b)), got, e)
		}
	}
}

// exactPercent rounds by its definition: what is less than half a hundredth above a number belongs to it, and what is exactly half a hundredth below it, too.
func exactPercent(a, hundredths int) *big.Int {
	twice := new(big.Int).Mul(large(a), large(hundredths))
	twice.Mul(twice, large(2))
	return floor(twice.Add(twice, large(10000)), large(20000))
}

func TestPercentOfAllNumbers(t *testing.T) {
	for _, a := range numbers() {
		for _, h := range numbers() {
			got, e := Percent(a, h)
			checkResult(t, "Percent", a, h, exactPercent(a, h), got, e)
		}
	}
	for a := -30; a <= 30; a++ {
		for h := -12000; h <= 12000; h += 100 {
			got, e := Percent(a, h)
			checkResult(t, "Percent", a, h, exactPercent(a, h), got, e)
		}
	}
}

func TestUpOfAllNumbers(t *testing.T) {
	check := func(a, unit int) {
		got, e := Up(a, unit)
		if unit < 1 {
			if got != 0 || e != api.ErrArg {
				t.Errorf("Up(%d, %d) = %d, %d", a, unit, got, e)
			}
			return
		}
		exact := floor(new(big.Int).Neg(large(a)), large(unit))
		exact.Neg(exact.Mul(exact, large(unit)))
		// The unit need not be an amount.
		checkResult(t, "Up", a, 0, exact, got, e)
	}
	for _, a := range numbers() {
		for _, unit := range numbers() {
			check(a, unit)
		}
	}
	for a := -50; a <= 50; a++ {
		for unit := range 20 {
			check(a, unit)
		}
	}
}

// P2.2

type division struct {
	a       int
	weights []int
	want    []int
}

func TestSplit(t *testing.T) {
	for _, c := range []division{
		{10000, []int{1, 1, 1}, []int{3334, 3333, 3333}},
		{-10000, []int{1, 1, 1}, []int{-3334, -3333, -3333}},
		{-5, []int{3, 1}, []int{-4, -1}},
		{5, []int{3, 1}, []int{4, 1}},
		{0, []int{3, 1}, []int{0, 0}},
		{7, []int{1}, []int{7}},
		{7, []int{most}, []int{7}},
		{5, []int{0, 2, 0}, []int{0, 5, 0}},
		{10, []int{1, 2, 4}, []int{1, 3, 6}},
		{100, []int{0, 1, 0, 1, 0, 1}, []int{0, 34, 0, 33, 0, 33}},
		// The remainders are 0, 2 and 2: of the greatest ones the lower index comes first.
		{6, []int{2, 1, 1}, []int{3, 2, 1}},
		// The remainders are 6, 2 and 2.
		{13, []int{2, 4, 4}, []int{3, 5, 5}},
		{-13, []int{2, 4, 4}, []int{-3, -5, -5}},
		// The remainders of the shares of 1 are 1, 2 and 3.
		{1, []int{1, 2, 3}, []int{0, 0, 1}},
		{2, []int{1, 2, 3}, []int{0, 1, 1}},
		{4, []int{1, 2, 3}, []int{1, 1, 2}},
		{-4, []int{1, 2, 3}, []int{-1, -1, -2}},
		{2, []int{1, 1, 1, 1}, []int{1, 1, 0, 0}},
		{-3, []int{1, 1, 1, 1}, []int{-1, -1, -1, 0}},
		{most, []int{1}, []int{most}},
		{-most, []int{1}, []int{-most}},
		{most, []int{1, 1}, []int{most / 2, most / 2}},
		{most, []int{most - 1, 1}, []int{most - 1, 1}},
		{-most, []int{1, most - 1}, []int{-1, -most + 1}},
		{most - 1, []int{most / 2, most / 2}, []int{most / 2, most/2 - 1}},
		{1, []int{most / 2, most / 2}, []int{1, 0}},
	} {
		if l, e := Split(c.a, c.weights); !slices.Equal(l, c.want) || e != api.OK {
			t.Errorf("Split(%d, %d) = %d, %d", c.a, c.weights, l, e)
		}
	}
}

func TestSplitRefuses(t *testing.T) {
	for _, c := range []struct {
		a       int
		weights []int
		e       api.Errno
	}{
		{1, nil, api.ErrArg},
		{1, []int{}, api.ErrArg},
		{0, nil, api.ErrArg},
		{1, []int{0}, api.ErrArg},
		{0, []int{0, 0}, api.ErrArg},
		{1, []int{-1}, api.ErrArg},
		{1, []int{2, -1}, api.ErrArg},
		{1, []int{-1, 2}, api.ErrArg},
		{1, []int{math.MinInt, 1}, api.ErrArg},
		{1, []int{most, 1, -1}, api.ErrArg},
		{1, []int{math.MaxInt, math.MaxInt, 2, -1}, api.ErrArg},
		{most + 1, nil, api.ErrArg},
		{math.MinInt, []int{0}, api.ErrArg},
		{-most - 1, []int{1, -1}, api.ErrArg},
		{1, []int{most, 1}, api.ErrOver},
		{1, []int{most + 1}, api.ErrOver},
		{0, []int{1, most}, api.ErrOver},
		{1, []int{math.MaxInt}, api.ErrOver},
		{1, []int{math.MaxInt, math.MaxInt}, api.ErrOver},
		// These sums are 0 and 1 in 64 bits.
		{1, []int{math.MaxInt, math.MaxInt, 2}, api.ErrOver},
		{1, []int{math.MaxInt, math.MaxInt, 3}, api.ErrOver},
		{most + 1, []int{1}, api.ErrOver},
		{-most - 1, []int{1}, api.ErrOver},
		{math.MaxInt, []int{1, 2}, api.ErrOver},
		{math.MinInt, []int{1, 2}, api.ErrOver},
	} {
		if l, e := Split(c.a, c.weights); len(l) != 0 || e != c.e {
			t.Errorf("Split(%d, %d) = %d, %d", c.a, c.weights, l, e)
		}
	}
}

// exactShares divides by the words of the chapter, and gives the remaining units out one by one.
func exactShares(a int, weights []int) []int {
	sum := new(big.Int)
	for _, w := range weights {
		sum.Add(sum, large(w))
	}
	sign := large(a).Sign()
	rest := new(big.Int).Abs(large(a))
	shares := make([]int, len(weights))
	remainders := make([]*big.Int, len(weights))
	for i, w := range weights {
		product := new(big.Int).Mul(new(big.Int).Abs(large(a)), large(w))
		share, remainder := new(big.Int).DivMod(product, sum, new(big.Int))
		rest.Sub(rest, share)
		shares[i], remainders[i] = int(share.Int64()), remainder
	}
	for range rest.Int64() {
		greatest := 0
		for i, r := range remainders {
			if r.Cmp(remainders[greatest]) > 0 {
				greatest = i
			}
		}
		shares[greatest]++
		remainders[greatest] = large(-1)
	}
	for i := range shares {
		shares[i] *= sign
	}
	return shares
}

// divisions calls f with small and great amounts and all kinds of weights that can divide them.
func divisions(f func(a int, weights []int)) {
	amounts := []int{most, most - 1, most/2 + 1, 987654321098, 10000, 9999}
	for a := range 30 {
		amounts = append(amounts, a)
	}
	var lists [][]int
	for x := range 5 {
		for y := range 5 {
			for z := range 8 {
				lists = append(lists, []int{x, y, z}, []int{x, z, x, y}, []int{z, 0, y + 1})
			}
		}
	}
	lists = append(lists, []int{1}, []int{most}, []int{most - 3, 1, 2}, []int{most / 2, most / 2}, []int{most / 3, most / 3, most / 3},
		[]int{1, most / 2, 1, most / 4}, []int{5000, 12345, 987654321098, 1}, slices.Repeat([]int{1}, 97), slices.Repeat([]int{3, 0, 7}, 40))
	for _, weights := range lists {
		if slices.Max(weights) == 0 {
			continue
		}
		for _, a := range amounts {
			f(a, weights)
			f(-a, weights)
		}
	}
}

func TestSplitOfManyAmounts(t *testing.T) {
	divisions(func(a int, weights []int) {
		l, e := Split(a, weights)
		if want := exactShares(a, weights); !slices.Equal(l, want) || e != api.OK {
			t.Errorf("Split(%d, %d) = %d, %d, not %d", a, weights, l, e, want)
		}
	})
}

func TestSharesAddUp(t *testing.T) {
	divisions(func(a int, weights []int) {
		l, _ := Split(a, weights)
		if sum, e := Sum(l...); sum != a || len(l) != len(weights) || e != api.OK {
			t.Errorf("Split(%d, %d) = %d", a, weights, l)
		}
	})
}

func TestManyShares(t *testing.T) {
	weights := slices.Repeat([]int{1, 2}, 100000)
	l, e := Split(450001, weights)
	if e != api.OK || len(l) != len(weights) {
		t.Fatal(len(l), e)
	}
	// A weight 1 has 1.5 and a little, a weight 2 has 3 and a little: all units that remain go to the first ones.
	for i, share := range l {
		want := weights[i] * 3 / 2
		if i%2 == 0 && i <= 100000 {
			want++
		}
		if share != want {
			t.Fatalf("share %d is %d, not %d", i, share, want)
		}
	}
}

// P2.3

func TestPrint(t *testing.T) {
	for _, c := range []struct {
		a int
		s string
	}{
		{-1250, "-12.50"}, {5, "0.05"}, {0, "0.00"}, {-1, "-0.01"}, {10, "0.10"}, {99, "0.99"}, {100, "1.00"}, {-100, "-1.00"}, {-99, "-0.99"},
		{100000, "1000.00"}, {123456, "1234.56"},
		{most, "10995116277.76"}, {-most, "-10995116277.76"}, {most + 1, "10995116277.77"}, {-most - 1, "-10995116277.77"},
		{math.MaxInt, "92233720368547758.07"}, {math.MinInt, "-92233720368547758.08"}, {math.MinInt + 1, "-92233720368547758.07"},
	} {
		if s := Print(c.a); s != c.s {
			t.Errorf("Print(%d) = %s", c.a, s)
		}
	}
}

func TestParse(t *testing.T) {
	for _, c := range []struct {
		s string
		a int
		e api.Errno
	}{
		{"0.05", 5, api.OK},
		{"-12.50", -1250, api.OK},
		{"0.00", 0, api.OK},
		{"-0.01", -1, api.OK},
		{"10.00", 1000, api.OK},
		{"10995116277.76", most, api.OK},
		{"-10995116277.76", -most, api.OK},
		{"10995116277.77", 0, api.ErrOver},
		{"-10995116277.77", 0, api.ErrOver},
		{"10995116278.00", 0, api.ErrOver},
		{"92233720368547758.07", 0, api.ErrOver},
		{"-92233720368547758.08", 0, api.ErrOver},
		{"92233720368547758.08", 0, api.ErrOver},
		{"9223372036854775807.00", 0, api.ErrOver},
		{"9223372036854775808.00", 0, api.ErrOver},
		// These are 0.00 and 0.01 in 64 bits.
		{"184467440737095516.16", 0, api.ErrOver},
		{"184467440737095516.17", 0, api.ErrOver},
		{"-99999999999999999999999.00", 0, api.ErrOver},
		{"1" + strings.Repeat("0", 1000) + ".00", 0, api.ErrOver},
		{"-1" + strings.Repeat("0", 1000) + ".99", 0, api.ErrOver},
		{"1" + strings.Repeat("0", 1000) + ".0", 0, api.ErrForm},
		{"1" + strings.Repeat("0", 1000), 0, api.ErrForm},
		{"0" + strings.Repeat("9", 1000) + ".00", 0, api.ErrForm},
	} {
		if a, e := Parse(c.s); a != c.a || e != c.e {
			t.Errorf("Parse(%q) = %d, %d", c.s, a, e)
		}
	}
}

func TestParseRefuses(t *testing.T) {
	for _, s := range []string{
		"", "-", ".", "-.", "0", "-0", "12", "-0.00", "00.00", "-00.01", "01.50", "-01.50", "000.05", ".50", "-.50", "0.", "1.5", "1.500", "1.505", "1.",
		"+1.00", "--1.00", "-+1.00", " 1.00", "1.00 ", "1 .00", "1. 0", "1.0 ", "1.-1", "1.+1", "1-.00", "1,00", "1.2.34", "1..00", "1.0.0", "1.00.",
		"a.00", "1.a0", "1.0a", "0x1.00", "1e2.00", "1_0.00", "1.00\n", "\n1.00", "1.0\x00", "\xff.00", "1\xff00", "100", "-100", "1:00", "/.00", ":.00", "1./0", "1.0:",
		"\xd9\xa1.00", "NaN", "$1.00",
	} {
		if a, e := Parse(s); a != 0 || e != api.ErrForm {
			t.Errorf("Parse(%q) = %d, %d", s, a, e)
		}
	}
}

func TestAmountsAreReadAsPrinted(t *testing.T) {
	check := func(n int) {
		a, e := Parse(Print(n))
		if isLargeAmount(large(n)) {
			if a != n || e != api.OK {
				t.Errorf("Parse(Print(%d)) = %d, %d", n, a, e)
			}
		} else if a != 0 || e != api.ErrOver {
			t.Errorf("Parse(Print(%d)) = %d, %d", n, a, e)
		}
	}
	for n := range 12000 {
		for _, base := range []int{0, most, -most, math.MaxInt, math.MinInt} {
			check(base + n)
			check(base - n)
		}
	}
	for n := 1; n < math.MaxInt/3; n *= 3 {
		check(n)
		check(-n)
	}
}

// shortTexts calls f with all texts of n bytes from an alphabet.
func shortTexts(alphabet string, n int, start string, f func(string)) {
	if n == 0 {
		f(start)
		return
	}
	for i := range len(alphabet) {
		shortTexts(alphabet, n-1, start+alphabet[i:i+1], f)
	}
}

func TestOnlyPrintedTextsAreRead(t *testing.T) {
	printed := map[string]int{}
	for n := -99999; n <= 999999; n++ {
		printed[Print(n)] = n
	}
	accepted := 0
	for n := range 8 {
		shortTexts("-.0159 ", n, "", func(s string) {
			a, e := Parse(s)
			want, ok := printed[s]
			if ok != (e == api.OK) || a != want || !ok && e != api.ErrForm {
				t.Errorf("Parse(%q) = %d, %d", s, a, e)
			}
			if ok {
				accepted++
			}
		})
	}
	if accepted == 0 {
		t.Error("nothing was accepted")
	}
}

func TestEveryByteOfAnAmount(t *testing.T) {
	for c := range 256 {
		b := string([]byte{byte(c)})
		digit := '0' <= c && c <= '9'
		for _, x := range []struct {
			s    string
			want int
			ok   bool
		}{
			{"1" + b + ".25", 1025 + (c-'0')*100, digit},
			{b + "1.25", 125 + (c-'0')*1000, digit && c != '0'},
			{"3." + b + "4", 304 + (c-'0')*10, digit},
			{"3.4" + b, 340 + c - '0', digit},
			{"3" + b + "42", 342, c == '.'},
		} {
			if c == '-' && x.s == "-1.25" {
				x.want, x.ok = -125, true
			}
			want, e := x.want, api.OK
			if !x.ok {
				want, e = 0, api.ErrForm
			}
			if a, got := Parse(x.s); a != want || got != e {
				t.Errorf("Parse(%q) = %d, %d", x.s, a, got)
			}
		}
	}
}

// P2.4

func TestSharesAreNearTheExactOnes(t *testing.T) {
	divisions(func(a int, weights []int) {
		sum := 0
		for _, w := range weights {
			sum += w
		}
		l, e := Split(a, weights)
		if e != api.OK || len(l) != len(weights) {
			t.Fatal(a, weights, l, e)
		}
		for i, share := range l {
			exact := new(big.Int).Mul(large(a), large(weights[i]))
			difference := exact.Sub(exact, new(big.Int).Mul(large(share), large(sum)))
			if difference.CmpAbs(large(sum)) >= 0 {
				t.Errorf("Split(%d, %d) = %d at %d", a, weights, l, i)
			}
		}
	})
}

func TestSubReversesAdd(t *testing.T) {
	reversed := 0
	for _, a := range numbers() {
		for _, b := range numbers() {
			sum, e := Add(a, b)
			if e != api.OK {
				continue
			}
			reversed++
			if got, e := Sub(sum, b); got != a || e != api.OK {
				t.Errorf("Sub(Add(%d, %d), %d) = %d, %d", a, b, b, got, e)
			}
			if got, e := Sub(sum, a); got != b || e != api.OK {
				t.Errorf("Sub(Add(%d, %d), %d) = %d, %d", a, b, a, got, e)
			}
		}
	}
	if reversed == 0 {
		t.Error("nothing was added")
	}
}

func TestPercentOfTheWhole(t *testing.T) {
	check := func(a int) {
		if got, e := Percent(a, 10000); got != a || e != api.OK {
			t.Errorf("Percent(%d, 10000) = %d, %d", a, got, e)
		}
	}
	for _, a := range numbers() {
		if isLargeAmount(large(a)) {
			check(a)
		}
	}
	for d := range 5000 {
		check(d)
		check(-d)
		check(most - d)
		check(d - most)
	}
}

// R4

func TestWeightsAreNotModified(t *testing.T) {
	weights := []int{3, 1, 2}
	first, _ := Split(10, weights)
	if !slices.Equal(weights, []int{3, 1, 2}) {
		t.Error(weights)
	}
	second, _ := Split(10, weights)
	first[0] = 7
	if !slices.Equal(second, []int{5, 2, 3}) || !slices.Equal(weights, []int{3, 1, 2}) {
		t.Error(second, weights)
	}
}
