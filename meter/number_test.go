package meter

import (
	"math"
	"math/big"
	"slices"
	"strconv"
	"strings"
	"testing"

	"tether/api"
)

// draws is a chain of numbers that are the same at each run.
type draws uint64

func (d *draws) next(below int) int {
	*d = *d*6364136223846793005 + 1442695040888963407
	return int(uint64(*d)>>33) % below
}

// float answers a number of drawn bits: of all sizes, and at times none.
func (d *draws) float() float64 {
	return math.Float64frombits(uint64(d.next(1<<16))<<48 | uint64(d.next(1<<24))<<24 | uint64(d.next(1<<24)))
}

// alike tells whether two numbers have the same bits.
func alike(a, b float64) bool {
	return math.Float64bits(a) == math.Float64bits(b)
}

// theNan is the NaN, as the document has it.
func theNan() float64 {
	return math.Float64frombits(0x7ff8000000000001)
}

// negative answers -0.
func negative() float64 {
	return math.Copysign(0, -1)
}

// nans are such as are no numbers, of bits of all kinds.
func nans() []float64 {
	var l []float64
	for _, n := range []uint64{0x7ff8000000000001, 0x7ff8000000000000, 0xfff8000000000000, 0xfff8000000000001, 0x7ff0000000000001, 0xfff0000000000001, 0x7fffffffffffffff, 0xffffffffffffffff} {
		l = append(l, math.Float64frombits(n))
	}
	return l
}

// inOrder are numbers, each one ahead of those behind it.
func inOrder() []float64 {
	return []float64{math.Inf(-1), -math.MaxFloat64, -1e21, -2, -1, -0.1, -1e-7, -0x1p-1022, -math.SmallestNonzeroFloat64, negative(),
		0, math.SmallestNonzeroFloat64, 0x1p-1022, 1e-7, 0.1, math.Nextafter(1, 0), 1, math.Nextafter(1, 2), 2, 1e21, math.MaxFloat64, math.Inf(1)}
}

// P25.1

func TestRatio(t *testing.T) {
	inf := math.Inf(1)
	for _, c := range []struct{ a, b, want float64 }{
		{1, 2, 0.5}, {1, 3, 0.3333333333333333}, {2, 3, 0.6666666666666666}, {-7, 2, -3.5}, {5, -5, -1}, {0, 5, 0}, {0, -5, negative()}, {negative(), 5, negative()}, {negative(), -5, 0},
		{0, 0, theNan()}, {negative(), 0, theNan()}, {0, negative(), theNan()}, {negative(), negative(), theNan()},
		{1, 0, inf}, {1, negative(), -inf}, {-1, 0, -inf}, {-1, negative(), inf}, {inf, 0, inf}, {inf, negative(), -inf}, {-inf, 0, -inf},
		{1, inf, 0}, {-1, inf, negative()}, {1, -inf, negative()}, {0, inf, 0}, {0, -inf, negative()},
		{inf, inf, theNan()}, {inf, -inf, theNan()}, {-inf, -inf, theNan()}, {inf, 5, inf}, {inf, -5, -inf},
		{math.MaxFloat64, 0.5, inf}, {-math.MaxFloat64, 0.5, -inf}, {math.SmallestNonzeroFloat64, 2, 0}, {-math.SmallestNonzeroFloat64, 2, negative()}, {3 * math.SmallestNonzeroFloat64, 2, 2 * math.SmallestNonzeroFloat64},
	} {
		if v := Ratio(c.a, c.b); !alike(v, c.want) {
			t.Error(c.a, c.b, v)
		}
	}
}

func TestRatioOfWhatIsNoNumber(t *testing.T) {
	for _, n := range nans() {
		for _, v := range append(inOrder(), nans()...) {
			if a, b := Ratio(n, v), Ratio(v, n); !alike(a, theNan()) || !alike(b, theNan()) {
				t.Error(math.Float64bits(n), v, math.Float64bits(a), math.Float64bits(b))
			}
		}
	}
}

func TestRatioIsTheNearest(t *testing.T) {
	var d draws = 1
	for range 20000 {
		a, b := float64(d.next(1<<31)-1<<30), float64(1+d.next(1<<31))
		want, _ := new(big.Rat).SetFrac64(int64(a), int64(b)).Float64()
		if v := Ratio(a, b); v != want {
			t.Fatal(a, b, v, want)
		}
	}
}

func TestOrder(t *testing.T) {
	l := inOrder()
	for i, a := range l {
		for j, b := range l {
			want := min(max(i-j, -1), 1)
			if n := Order(a, b); n != want {
				t.Error(a, b, n)
			}
		}
		for _, n := range nans() {
			if Order(n, a) != -1 || Order(a, n) != 1 {
				t.Error(math.Float64bits(n), a)
			}
		}
	}
	for _, a := range nans() {
		for _, b := range nans() {
			if n := Order(a, b); n != 0 {
				t.Error(math.Float64bits(a), math.Float64bits(b), n)
			}
		}
	}
}

func TestMean(t *testing.T) {
	inf := math.Inf(1)
	for i, c := range []struct {
		old, v float64
		parts  int
		want   float64
	}{
		{8, 0, 8, 7}, {0, 8, 8, 1}, {8, 0, 1, 0}, {5, 5, 3, 5}, {0, 1024, 1024, 1}, {-1, 1, 2, 0},
		{3.3, 1.6, 1024, 3.29833984375}, {9.3, 3, 3, 7.200000000000001}, {0.4, 8.4, 3, 3.0666666666666664}, {4.9, 8.8, 8, 5.3875},
		{1e300, 1, 1, 0}, // the difference is rounded ahead of the sum
		{inf, 5, 8, theNan()}, {inf, inf, 8, theNan()}, {5, inf, 8, inf}, {5, -inf, 8, -inf}, {-inf, inf, 8, theNan()},
		{-math.MaxFloat64, math.MaxFloat64, 2, inf},
		{negative(), negative(), 4, 0}, {negative(), 0, 4, 0}, {0, negative(), 4, 0},
	} {
		if v, e := Mean(c.old, c.v, c.parts); !alike(v, c.want) || e != api.OK {
			t.Error(i, v, e)
		}
	}
	for _, n := range nans() {
		for _, v := range inOrder() {
			if m, e := Mean(n, v, 8); !alike(m, v) || e != api.OK {
				t.Error(v, m, e)
			}
			if m, e := Mean(v, n, 8); !alike(m, theNan()) || e != api.OK {
				t.Error(v, m, e)
			}
		}
		for _, o := range nans() {
			if m, e := Mean(n, o, 1); !alike(m, theNan()) || e != api.OK {
				t.Error(math.Float64bits(m), e)
			}
		}
	}
}

func TestMeanRefusesParts(t *testing.T) {
	for _, parts := range []int{math.MinInt, -1, 0, 1025, 1 << 32, math.MaxInt} {
		for _, v := range append(inOrder(), nans()...) {
			if m, e := Mean(v, 1, parts); !alike(m, 0) || e != api.ErrArg {
				t.Error(parts, v, m, e)
			}
			if m, e := Mean(1, v, parts); !alike(m, 0) || e != api.ErrArg {
				t.Error(parts, v, m, e)
			}
		}
	}
}

func TestBestAndWorst(t *testing.T) {
	inf := math.Inf(1)
	for i, c := range []struct {
		l           []float64
		best, worst float64
	}{
		{[]float64{5}, 5, 5}, {[]float64{2, 1, 3}, 1, 3}, {[]float64{3, 2, 1}, 1, 3}, {[]float64{1, 1, 1}, 1, 1},
		{[]float64{0, negative()}, negative(), 0}, {[]float64{negative(), 0, negative()}, negative(), 0}, {[]float64{0, 0}, 0, 0},
		{[]float64{inf, 1, -inf}, -inf, inf}, {[]float64{inf}, inf, inf}, {[]float64{theNan(), -inf, theNan()}, -inf, -inf},
		{[]float64{theNan(), 4, nans()[7], 9, nans()[4]}, 4, 9},
	} {
		before := slices.Clone(c.l)
		best, is := Best(c.l...)
		worst, was := Worst(c.l...)
		if !alike(best, c.best) || !alike(worst, c.worst) || !is || !was {
			t.Error(i, best, is, worst, was)
		}
		if !slices.EqualFunc(c.l, before, alike) {
			t.Error("what was handed in is changed")
		}
	}
	l := inOrder()
	slices.Reverse(l)
	if v, ok := Best(l...); v != math.Inf(-1) || !ok {
		t.Error(v)
	}
	if v, ok := Worst(l...); v != math.Inf(1) || !ok {
		t.Error(v)
	}
}

func TestBestAndWorstOfNone(t *testing.T) {
	for n := range len(nans()) + 1 {
		l := nans()[len(nans())-n:]
		if v, ok := Best(l...); !alike(v, theNan()) || ok {
			t.Error(n, math.Float64bits(v), ok)
		}
		if v, ok := Worst(l...); !alike(v, theNan()) || ok {
			t.Error(n, math.Float64bits(v), ok)
		}
	}
}

// P25.2

// written are numbers, and their texts.
var written = []struct {
	v    float64
	text string
}{
	{math.Inf(1), "inf"}, {math.Inf(-1), "-inf"}, {0, "0"}, {math.Copysign(0, -1), "-0"},
	{1, "1"}, {-1, "-1"}, {10, "10"}, {100, "100"}, {0.1, "0.1"}, {-0.5, "-0.5"}, {1234.5, "1234.5"}, {math.Nextafter(0.8, 0), "0.7999999999999999"}, {1.0 / 3, "0.3333333333333333"},
	{1e-5, "0.00001"}, {1e-6, "0.000001"}, {-1e-6, "-0.000001"}, {1.5e-6, "0.0000015"}, {math.Nextafter(1e-6, 0), "9.999999999999997e-07"}, {1e-7, "1e-07"}, {-1.5e-7, "-1.5e-07"}, {1e-10, "1e-10"}, {1e-99, "1e-99"}, {1e-100, "1e-100"},
	{1e20, "100000000000000000000"}, {-1e20, "-100000000000000000000"}, {123456789012345680000, "123456789012345680000"}, {999999999999999900000, "999999999999999900000"}, {math.Nextafter(1e21, 0), "999999999999999900000"}, {1e21, "1e+21"}, {-1e21, "-1e+21"}, {1.5e21, "1.5e+21"}, {1e22, "1e+22"}, {1e99, "1e+99"}, {1e100, "1e+100"},
	{1 << 53, "9007199254740992"}, {1 << 60, "1152921504606847000"}, {1 << 63, "9223372036854776000"},
	{math.MaxFloat64, "1.7976931348623157e+308"}, {-math.MaxFloat64, "-1.7976931348623157e+308"}, {math.SmallestNonzeroFloat64, "5e-324"}, {0x1p-1022, "2.2250738585072014e-308"},
	{5e-324 * 3, "1.5e-323"}, {123456.789, "123456.789"}, {0.000123, "0.000123"},
}

func TestText(t *testing.T) {
	for _, c := range written {
		if s := Text(c.v); s != c.text {
			t.Error(c.v, s)
		}
	}
	for _, n := range nans() {
		if s := Text(n); s != "nan" {
			t.Error(math.Float64bits(n), s)
		}
	}
}

// readsAs tells whether a decimal of such digits, the first one at a place, is read as v.
func readsAs(digits string, place int, v float64) bool {
	back, _ := strconv.ParseFloat(digits+"e"+strconv.Itoa(place-len(digits)+1), 64)
	return back == v
}

// digitsOf answers the digits of a text of a number above 0, without zeros at both ends, and the place of the first one.
func digitsOf(t *testing.T, s string) (string, int) {
	t.Helper()
	digits, exponent, large := strings.Cut(s, "e")
	place := 0
	if large {
		n, err := strconv.Atoi(exponent)
		if err != nil || len(exponent) < 3 || exponent[0] != '+' && exponent[0] != '-' || len(exponent) > 3 && exponent[1] == '0' {
			t.Fatal(s)
		}
		place = n
	}
	whole, part, pointed := strings.Cut(digits, ".")
	if pointed && (part == "" || part[len(part)-1] == '0') || whole == "" || len(whole) > 1 && (whole[0] == '0' || large) {
		t.Fatal(s)
	}
	place += len(whole) - 1
	digits = whole + part
	for digits[0] == '0' {
		digits = digits[1:]
		place--
	}
	return strings.TrimRight(digits, "0"), place
}

func TestTextIsTheShortestThatIsReadAsTheNumber(t *testing.T) {
	var d draws = 2
	for i := range 30000 {
		v := math.Abs(d.float())
		switch {
		case i%3 == 0:
			v = math.Ldexp(float64(1+d.next(1<<20)), d.next(120)-60)
		case i%3 == 1:
			v = math.Ldexp(1, d.next(2098)-1074)
		}
		if math.IsNaN(v) || math.IsInf(v, 0) || v == 0 {
			continue
		}
		s := Text(v)
		digits, place := digitsOf(t, s)
		if strings.Contains(s, "e") != (place < -6 || place > 20) || !readsAs(digits, place, v) || Text(-v) != "-"+s {
			t.Fatal(v, s)
		}
		if len(digits) == 1 {
			continue
		}
		exact := new(big.Float).SetFloat64(v).Text('e', 1100)
		below := strings.Replace(exact, ".", "", 1)[:len(digits)-1]
		top, _ := strconv.Atoi(exact[strings.Index(exact, "e")+1:])
		n, _ := strconv.ParseInt(below, 10, 64)
		if readsAs(below, top, v) || readsAs(strconv.FormatInt(n+1, 10), top+len(strconv.FormatInt(n+1, 10))-len(below), v) {
			t.Fatal(v, s, "is not the shortest")
		}
	}
}

func TestNumber(t *testing.T) {
	for _, c := range written {
		if v, e := Number(c.text); !alike(v, c.v) || e != api.OK {
			t.Error(c.text, v, e)
		}
	}
	if v, e := Number("nan"); !alike(v, theNan()) || e != api.OK {
		t.Error(math.Float64bits(v), e)
	}
}

func TestNumberRefuses(t *testing.T) {
	for _, s := range []string{"", " ", "NaN", "Nan", "+nan", "-nan", "nan(1)", "Inf", "INF", "+inf", "infinity", "-Infinity", "in", "--inf", "x", "\x00", "\xff",
		"+0", "00", "-00", "0.0", "-0.0", "0.", ".0", "0e+00", "0e0", "-0e+00", "1.0", "01", "-01", "+1", "1.", ".5", "-.5", "0.10", "00.1", "1,5", "1_0", "0x10", "0x1p4", "0b1", "1f", "1 ", " 1", "1\n", "- 1", "--1", "-", ".", "e", "1e", "1e+", "e+21",
		"1e21", "1E+21", "1e+021", "1e+20", "1e+2", "1e-6", "1e-06", "1e-7", "1e-007", "10e+20", "0.1e+22", "1.0e+21", "1.50e+21", "0.0000001", "1000000000000000000000", "9007199254740993", "1152921504606846976", "0.30000000000000001", "0.1000000000000000055511151231257827", "4e-324", "4.9e-324", "1.7976931348623158e+308",
		"1e+309", "-1e+400", "1e+9999999999", "1e-400", "1e-9999999999", strings.Repeat("9", 5000), "0." + strings.Repeat("0", 5000) + "1", strings.Repeat("-", 5000), "1e+" + strings.Repeat("9", 5000)} {
		if v, e := Number(s); !alike(v, 0) || e != api.ErrForm {
			t.Errorf("%.40q: %v %v", s, v, e)
		}
	}
}

// P25.5

func TestNumbersAreReadAsTheyWereWritten(t *testing.T) {
	var d draws = 3
	l := append(inOrder(), nans()...)
	for range 100000 {
		l = append(l, d.float())
	}
	for _, v := range l {
		want := v
		if math.IsNaN(v) {
			want = theNan()
		}
		if back, e := Number(Text(v)); !alike(back, want) || e != api.OK {
			t.Fatal(math.Float64bits(v), Text(v), back, e)
		}
	}
}

func TestNumberReadsTextsAlone(t *testing.T) {
	var d draws = 4
	letters := "0123456789.e+-naif "
	for range 200000 {
		b := []byte(Text(float64(d.next(3000)-1500) / float64(1+d.next(40))))
		for range d.next(3) {
			at := d.next(len(b))
			b[at] = letters[d.next(len(letters))]
		}
		s := string(b)
		if v, e := Number(s); (e == api.OK) != (Text(v) == s) || e != api.OK && (e != api.ErrForm || !alike(v, 0)) {
			t.Fatal(s, v, e)
		}
	}
}

// P25.6

func TestOrderIsAnOrder(t *testing.T) {
	var d draws = 5
	known := append(inOrder(), nans()...)
	one := func() float64 {
		if d.next(2) == 0 {
			return known[d.next(len(known))]
		}
		return d.float()
	}
	for range 100000 {
		a, b, c := one(), one(), one()
		if Order(a, a) != 0 || Order(a, b) != -Order(b, a) {
			t.Fatal(a, b)
		}
		if Order(a, b) <= 0 && Order(b, c) <= 0 && Order(a, c) > min(Order(a, b), Order(b, c)) {
			t.Fatal(a, b, c)
		}
		if Order(a, b) == 0 && !alike(a, b) && !(math.IsNaN(a) && math.IsNaN(b)) {
			t.Fatal(a, b, "are two")
		}
	}
}

func TestBestIsAheadOfWorst(t *testing.T) {
	var d draws = 6
	known := append(inOrder(), nans()...)
	for range 50000 {
		var l, numbers []float64
		for range d.next(7) {
			v := known[d.next(len(known))]
			if l = append(l, v); v == v {
				numbers = append(numbers, v)
			}
		}
		best, is := Best(l...)
		worst, was := Worst(l...)
		if is != (len(numbers) > 0) || was != is || Order(best, worst) > 0 {
			t.Fatal(l, best, worst)
		}
		if !is {
			continue
		}
		slices.SortFunc(numbers, Order)
		if !alike(best, numbers[0]) || !alike(worst, numbers[len(numbers)-1]) {
			t.Fatal(l, best, worst)
		}
	}
}
