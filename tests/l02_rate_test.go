package tests

import (
	"fmt"
	"math"
	"math/big"
	"math/bits"
	"reflect"
	"regexp"
	"strings"
	"testing"

	"loop.example/g00646/impl"
)

const (
	minusBit  = math.MinInt64
	quietNan  = 0x7FF8000000000000
	infinite  = 0x7FF0000000000000
	oneAsBits = 0x3FF0000000000000
)

func wantText(t *testing.T, call string, got impl.TextResult, code int64, text string) {
	t.Helper()
	if want := (impl.TextResult{Code: code, Text: text}); got != want {
		t.Errorf("%s: got %+v, want %+v", call, got, want)
	}
}

func wantParts(t *testing.T, call string, got impl.PartsResult, want impl.PartsResult) {
	t.Helper()
	if got != want {
		t.Errorf("%s: got %+v, want %+v", call, got, want)
	}
}

// bitsByHand lays E and F together by whole numbers alone.
func bitsByHand(minus bool, quarters int64) int64 {
	sum := int64(0)
	if quarters > 0 {
		top := int64(bits.Len64(uint64(quarters)) - 1)
		sum = (1023-2+top)<<52 | (quarters<<(52-top))&(1<<52-1)
	}
	if minus {
		sum |= minusBit
	}
	return sum
}

func textByHand(minus bool, quarters int64) string {
	sign := ""
	if minus {
		sign = "-"
	}
	return fmt.Sprint(sign, quarters/4, []string{"", ".25", ".5", ".75"}[quarters%4])
}

// eachRate calls try with every number of quarters that there is.
func eachRate(try func(minus bool, quarters int64)) {
	for quarters := int64(0); quarters <= 4*impl.MaxRate+3; quarters++ {
		try(false, quarters)
		try(true, quarters)
	}
}

// nans have each an E of 2047 and an F that is not 0.
func nans() []int64 {
	list := []int64{math.MaxInt64, -1}
	for _, f := range []int64{1, 2, 1 << 50, 1<<51 - 1, 1 << 51, 1<<51 + 1, 1<<52 - 2, 1<<52 - 1} {
		list = append(list, infinite|f, minusBit|infinite|f)
	}
	return list
}

// others are the bits, without Minus, of numbers that are not in quarters, or are above the greatest rate.
func others() []int64 {
	list := []int64{1, 2, 4, 1<<52 - 1, 1 << 52, 1<<52 + 1, infinite - 1}
	for _, v := range []float64{0.1, 0.125, 0.2, 0.375, 0.875, 1.125, 1.2, 1.0 / 3, 0.3, 255.0625, 4095.9990234375,
		9998.125, 9999.125, 9999.7, 9999.7500001, 9999.76, 9999.8, 9999.875, 9999.999,
		10000, 10000.25, 10000.5, 10000.75, 10001, 16384, 39999, 40000, 1 << 31, 1 << 32, 1 << 53, 1 << 62, 1 << 63, 1 << 64,
		1e18, 1e300, math.MaxFloat64 / 4, math.MaxFloat64 / 2, math.SmallestNonzeroFloat64} {
		list = append(list, int64(math.Float64bits(v)))
	}
	return list
}

func TestGreatestRate(t *testing.T) {
	if impl.MaxRate != 9999 {
		t.Error(impl.MaxRate)
	}
}

func TestEveryRateHasOneTextAlone(t *testing.T) {
	texts := map[string]int64{}
	eachRate(func(minus bool, quarters int64) {
		rate, text := bitsByHand(minus, quarters), textByHand(minus, quarters)
		call := fmt.Sprintf("%s (%#x)", text, uint64(rate))
		wantInt(t, "RateBits of "+call, impl.RateBits(minus, quarters/4, quarters%4), impl.OK, rate)
		wantParts(t, "RateParts of "+call, impl.RateParts(rate), impl.PartsResult{Minus: minus, Whole: quarters / 4, Quarters: quarters % 4})
		wantText(t, "RateText of "+call, impl.RateText(rate), impl.OK, text)
		wantInt(t, "RateOf of "+call, impl.RateOf(text), impl.OK, rate)
		if before, ok := texts[text]; ok {
			t.Errorf("%s is the text of %#x, too", call, uint64(before))
		}
		texts[text] = rate
	})
}

func TestRatesByName(t *testing.T) {
	for _, c := range []struct {
		text string
		bits int64
	}{
		{"0", 0},
		{"-0", math.MinInt64},
		{"1", oneAsBits},
		{"-1", minusBit | oneAsBits},
		{"1.5", 0x3FF8000000000000},
		{"0.25", 0x3FD0000000000000},
		{"0.75", 0x3FE8000000000000},
		{"9999", 0x40C3878000000000},
		{"9999.75", 0x40C387E000000000},
		{"-9999.75", minusBit | 0x40C387E000000000},
		{"nan", quietNan},
		{"inf", infinite},
		{"-inf", minusBit | infinite},
	} {
		wantInt(t, "RateOf of "+c.text, impl.RateOf(c.text), impl.OK, c.bits)
		wantText(t, fmt.Sprintf("RateText of %#x", uint64(c.bits)), impl.RateText(c.bits), impl.OK, c.text)
	}
}

var rateForm = regexp.MustCompile(`\A(nan|-?inf|-?[0-9]{1,4}(\.[0-9]{1,3})?)\z`)

// rateByHand reads a text by the form that the document tells, and by fractions without rounding.
func rateByHand(text string) (bits int64, again string, ok bool) {
	if !rateForm.MatchString(text) {
		return 0, "", false
	}
	amount, minus := strings.CutPrefix(text, "-")
	switch {
	case text == "nan":
		return quietNan, text, true
	case text == "inf":
		return infinite, text, true
	case text == "-inf":
		return minusBit | infinite, text, true
	}
	value, read := new(big.Rat).SetString(amount)
	if !read {
		panic(text)
	}
	value.Mul(value, big.NewRat(4, 1))
	if !value.IsInt() {
		return 0, "", false
	}
	quarters := value.Num().Int64()
	return bitsByHand(minus, quarters), textByHand(minus, quarters), true
}

func checkText(t *testing.T, text string) {
	t.Helper()
	rate, again, ok := rateByHand(text)
	if !ok {
		wantInt(t, fmt.Sprintf("RateOf(%q)", text), impl.RateOf(text), impl.ErrText, 0)
		wantText(t, fmt.Sprintf("GainText(%q)", text), impl.GainText(text), impl.ErrText, "")
		return
	}
	wantInt(t, fmt.Sprintf("RateOf(%q)", text), impl.RateOf(text), impl.OK, rate)
	wantText(t, fmt.Sprintf("RateText of %q", text), impl.RateText(rate), impl.OK, again)
	switch {
	case again == "-0":
		wantText(t, fmt.Sprintf("GainText(%q)", text), impl.GainText(text), impl.OK, "0")
	case again == "nan" || again == "inf" || again[0] == '-':
		wantText(t, fmt.Sprintf("GainText(%q)", text), impl.GainText(text), impl.ErrRange, "")
	default:
		wantText(t, fmt.Sprintf("GainText(%q)", text), impl.GainText(text), impl.OK, again)
	}
}

func TestShortTexts(t *testing.T) {
	const letters = "0257.-nafi"
	level := []string{""}
	for range 6 {
		var next []string
		for _, text := range level {
			checkText(t, text)
			for i := range len(letters) {
				if len(text) < 5 {
					next = append(next, text+letters[i:i+1])
				}
			}
		}
		level = next
	}
}

func TestDigitsAheadAndBehind(t *testing.T) {
	heads := []string{"", "0", "1", "7", "9", "00", "01", "10", "99", "000", "007", "100", "0000", "0001", "0100", "1000", "9998", "9999",
		"00000", "00001", "10000", "99999", "000000", "12345678901234567890", "18446744073709551617"}
	var tails []string
	for digits := 1; digits <= 4; digits++ {
		for i, most := 0, int(math.Pow10(digits)); i < most; i++ {
			tails = append(tails, fmt.Sprintf("%0*d", digits, i))
		}
	}
	tails = append(tails, "", "25000", "0000000000000000000000", "5.", ".5", "5.0", "-5", "5-", "+5", " 5", "5 ")
	for _, head := range heads {
		for _, sign := range []string{"", "-", "--", "+"} {
			checkText(t, sign+head)
			for _, tail := range tails {
				checkText(t, sign+head+"."+tail)
			}
		}
	}
}

func TestTextsThatAreNone(t *testing.T) {
	for _, text := range []string{"", "-", ".", "-.", "1.", ".5", "-.5", "-1.", "1..5", "1.5.", "1,5", "1.2", "1.3", "0.1", "0.125", "1.249", "1.251",
		"10000", "00000", "99999", "-10000", "1.2500", "1.0000", "1.5000", "--1", "-+1", "+1", "+inf", "+nan", "- 1", "1-", "-1-", " 1", "1 ", "1\n", "\n1",
		"1\x00", "\x00", "\xff", "1.\xff", "-nan", "--inf", "--nan", "NaN", "Nan", "NAN", "Inf", "INF", "-Inf", "infinity", "-infinity", "nan0", "0nan", "inf0", "inf.5", "nan.",
		"in", "na", "i", "n", "infinf", "nannan", "nan ", " inf", "1e1", "1e3", "0x1", "1_0", "1/4", "½", "１", "٣", "1.５", "−1", "1.25.25", strings.Repeat("0", 1000), strings.Repeat("1", 1<<16)} {
		wantInt(t, fmt.Sprintf("RateOf(%.40q)", text), impl.RateOf(text), impl.ErrText, 0)
		wantText(t, fmt.Sprintf("GainText(%.40q)", text), impl.GainText(text), impl.ErrText, "")
	}
}

func TestEveryByteInEveryPlace(t *testing.T) {
	for _, text := range []string{"0", "1", "12.50", "-1.25", "9999.750", "-0.0", "nan", "inf", "-inf"} {
		for place := range len(text) {
			for b := range 256 {
				other := string([]byte{byte(b)})
				checkText(t, text[:place]+other+text[place+1:])
				checkText(t, text[:place]+other+text[place:])
			}
		}
		for b := range 256 {
			checkText(t, text+string([]byte{byte(b)}))
		}
	}
}

func TestEveryNanIsOne(t *testing.T) {
	for _, rate := range nans() {
		call := fmt.Sprintf("nan %#x", uint64(rate))
		wantText(t, "RateText of "+call, impl.RateText(rate), impl.OK, "nan")
		wantParts(t, "RateParts of "+call, impl.RateParts(rate), impl.PartsResult{Code: impl.ErrNone})
		wantInt(t, "RateOf of the text of "+call, impl.RateOf(impl.RateText(rate).Text), impl.OK, quietNan)
		if impl.IsGain(rate) {
			t.Error("IsGain of", call)
		}
		for _, v := range []int64{0, 1, impl.MaxPurse} {
			wantInt(t, fmt.Sprintf("ScaleBy(%s, %d)", call, v), impl.ScaleBy(rate, v), impl.ErrNone, 0)
		}
	}
}

func TestInfinities(t *testing.T) {
	for _, c := range []struct{ bits, code int64 }{{infinite, impl.ErrFull}, {minusBit | infinite, impl.ErrPoor}} {
		wantParts(t, fmt.Sprintf("RateParts(%d)", c.bits), impl.RateParts(c.bits), impl.PartsResult{Code: impl.ErrNone})
		if impl.IsGain(c.bits) {
			t.Errorf("IsGain(%d)", c.bits)
		}
		for _, v := range []int64{0, 1, impl.MaxPurse} {
			wantInt(t, fmt.Sprintf("ScaleBy(%d, %d)", c.bits, v), impl.ScaleBy(c.bits, v), c.code, 0)
		}
	}
}

func TestOtherNumbers(t *testing.T) {
	for _, plain := range others() {
		for _, c := range []struct{ bits, code int64 }{{plain, impl.ErrRange}, {minusBit | plain, impl.ErrPoor}} {
			checkOther(t, c.bits, c.code)
		}
	}
}

func checkOther(t *testing.T, rate int64, scaled int64) {
	t.Helper()
	call := fmt.Sprintf("%v (%#x)", math.Float64frombits(uint64(rate)), uint64(rate))
	wantParts(t, "RateParts of "+call, impl.RateParts(rate), impl.PartsResult{Code: impl.ErrRange})
	wantText(t, "RateText of "+call, impl.RateText(rate), impl.ErrRange, "")
	if impl.IsGain(rate) {
		t.Error("IsGain of", call)
	}
	for _, v := range []int64{0, 1, impl.MaxPurse} {
		wantInt(t, fmt.Sprintf("ScaleBy(%s, %d)", call, v), impl.ScaleBy(rate, v), scaled, 0)
	}
}

// What is one bit beside a rate is no rate, and neither is what has another bit turned, but where that is one, too.
func TestNumbersBesideTheRates(t *testing.T) {
	eachRate(func(minus bool, quarters int64) {
		rate, scaled := bitsByHand(minus, quarters), int64(impl.ErrRange)
		if minus {
			scaled = impl.ErrPoor
		}
		checkOther(t, rate+1, scaled)
		if quarters > 0 {
			checkOther(t, rate-1, scaled)
		}
	})
}

func TestEachBitTurned(t *testing.T) {
	rates := map[int64]impl.PartsResult{}
	eachRate(func(minus bool, quarters int64) {
		rates[bitsByHand(minus, quarters)] = impl.PartsResult{Minus: minus, Whole: quarters / 4, Quarters: quarters % 4}
	})
	for _, quarters := range []int64{0, 1, 2, 3, 4, 5, 6, 7, 8, 1023, 4095, 20000, 32768, 39996, 39999} {
		for place := range 64 {
			rate := bitsByHand(false, quarters) ^ 1<<place
			want, ok := rates[rate]
			v := math.Float64frombits(uint64(rate))
			switch {
			case math.IsNaN(v) || math.IsInf(v, 0):
				want.Code = impl.ErrNone
			case !ok:
				want.Code = impl.ErrRange
			}
			wantParts(t, fmt.Sprintf("RateParts(%#x)", uint64(rate)), impl.RateParts(rate), want)
		}
	}
}

func TestRateBitsOutOfBounds(t *testing.T) {
	for _, minus := range []bool{false, true} {
		for _, whole := range outside(0, impl.MaxRate) {
			for _, quarters := range append(outside(0, 3), 0, 1, 3, 5, 8) {
				wantInt(t, fmt.Sprintf("RateBits(%t, %d, %d)", minus, whole, quarters), impl.RateBits(minus, whole, quarters), impl.ErrRange, 0)
			}
		}
		for _, quarters := range outside(0, 3) {
			for _, whole := range []int64{0, 1, 2, 5000, impl.MaxRate - 1, impl.MaxRate} {
				wantInt(t, fmt.Sprintf("RateBits(%t, %d, %d)", minus, whole, quarters), impl.RateBits(minus, whole, quarters), impl.ErrRange, 0)
			}
		}
	}
}

func TestIsGain(t *testing.T) {
	eachRate(func(minus bool, quarters int64) {
		if got, want := impl.IsGain(bitsByHand(minus, quarters)), !minus || quarters == 0; got != want {
			t.Errorf("IsGain of %s is %t", textByHand(minus, quarters), got)
		}
	})
}

func TestGainText(t *testing.T) {
	for _, c := range []struct {
		text string
		code int64
		gain string
	}{
		{"0", impl.OK, "0"},
		{"-0", impl.OK, "0"},
		{"-0.0", impl.OK, "0"},
		{"-0000.000", impl.OK, "0"},
		{"0.25", impl.OK, "0.25"},
		{"01.50", impl.OK, "1.5"},
		{"0007.750", impl.OK, "7.75"},
		{"9999.75", impl.OK, "9999.75"},
		{"-0.25", impl.ErrRange, ""},
		{"-1", impl.ErrRange, ""},
		{"-9999.75", impl.ErrRange, ""},
		{"nan", impl.ErrRange, ""},
		{"inf", impl.ErrRange, ""},
		{"-inf", impl.ErrRange, ""},
		// Below 0 or above the bound as well, but first it has to be read.
		{"-nan", impl.ErrText, ""},
		{"-1.2", impl.ErrText, ""},
		{"10000", impl.ErrText, ""},
	} {
		wantText(t, "GainText of "+c.text, impl.GainText(c.text), c.code, c.gain)
	}
}

func TestScaleBy(t *testing.T) {
	for _, c := range []struct {
		rate    string
		v, want int64
	}{
		{"1.5", 10, 15},
		{"1.5", 3, 4},
		{"1.5", 0, 0},
		{"0", 9, 0},
		{"-0", 9, 0},
		{"-0", impl.MaxPurse, 0},
		{"0.25", 3, 0},
		{"0.25", 4, 1},
		{"0.25", impl.MaxPurse, 250000},
		{"0.75", 1, 0},
		{"0.75", 2, 1},
		{"0.75", 999999, 749999},
		{"1.75", 3, 5},
		{"1.25", 800000, impl.MaxPurse},
		{"1.25", 799999, 999998},
		{"1.25", 800001, impl.MaxPurse},
		{"2", 500000, impl.MaxPurse},
		{"2", 500001, impl.MaxPurse},
		{"2", 499999, 999998},
		{"9999.75", 0, 0},
		{"9999.75", 1, 9999},
		{"9999.75", 100, 999975},
		{"9999.75", 101, impl.MaxPurse},
		{"9999.75", impl.MaxPurse, impl.MaxPurse},
	} {
		wantInt(t, fmt.Sprintf("ScaleBy of %s and %d", c.rate, c.v), impl.ScaleBy(impl.RateOf(c.rate).Value, c.v), impl.OK, c.want)
	}
}

func TestByOneAllIsAsItWas(t *testing.T) {
	for v := int64(0); v <= impl.MaxPurse; v++ {
		if got := impl.ScaleBy(oneAsBits, v); got != (impl.IntResult{Value: v}) {
			t.Fatalf("ScaleBy of 1 and %d: %+v", v, got)
		}
	}
}

func TestScaleByEveryRate(t *testing.T) {
	eachRate(func(minus bool, quarters int64) {
		for _, v := range []int64{0, 1, 2, 3, 5, 99, 100, 101, 9999, 499999, 999999, impl.MaxPurse} {
			call := fmt.Sprintf("ScaleBy of %s and %d", textByHand(minus, quarters), v)
			got := impl.ScaleBy(bitsByHand(minus, quarters), v)
			if minus && quarters > 0 {
				wantInt(t, call, got, impl.ErrPoor, 0)
				continue
			}
			all := new(big.Int).Mul(big.NewInt(quarters), big.NewInt(v))
			wantInt(t, call, got, impl.OK, min(all.Div(all, big.NewInt(4)).Int64(), impl.MaxPurse))
		}
	})
}

func TestScaleByAsksThePurseFirst(t *testing.T) {
	rates := append(nans(), others()...)
	rates = append(rates, 0, math.MinInt64, oneAsBits, minusBit|oneAsBits, infinite, minusBit|infinite, bitsByHand(false, 39999))
	for _, rate := range rates {
		for _, v := range outside(0, impl.MaxPurse) {
			wantInt(t, fmt.Sprintf("ScaleBy(%#x, %d)", uint64(rate), v), impl.ScaleBy(rate, v), impl.ErrRange, 0)
		}
	}
}

func rateAnswers(rate int64, text string) []any {
	return []any{
		impl.RateOf(text), impl.GainText(text), impl.RateText(rate), impl.RateParts(rate), impl.IsGain(rate),
		impl.ScaleBy(rate, 7), impl.ScaleBy(7, rate), impl.RateBits(rate < 0, rate, 3), impl.RateBits(rate < 0, 3, rate),
	}
}

func TestRatesHangOnTheirArgumentsAlone(t *testing.T) {
	rates := append(append(nans(), others()...), numberEdges()...)
	for _, plain := range others() {
		rates = append(rates, minusBit|plain)
	}
	texts := []string{"0", "-0", "nan", "inf", "-inf", "1.5", "-1.25", "0009.750", "-nan", "", "1.2"}
	first := make([][]any, len(rates))
	for i, rate := range rates {
		first[i] = rateAnswers(rate, texts[i%len(texts)])
	}
	for i := len(rates) - 1; i >= 0; i-- {
		if again := rateAnswers(rates[i], texts[i%len(texts)]); !reflect.DeepEqual(again, first[i]) {
			t.Errorf("of %#x: first %v, then %v", uint64(rates[i]), first[i], again)
		}
	}
}
