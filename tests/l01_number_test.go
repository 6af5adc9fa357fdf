package tests

import (
	"fmt"
	"math"
	"reflect"
	"testing"

	"loop.example/g00646/impl"
)

func wantInt(t *testing.T, call string, got impl.IntResult, code int64, value int64) {
	t.Helper()
	if want := (impl.IntResult{Code: code, Value: value}); got != want {
		t.Errorf("%s: got %+v, want %+v", call, got, want)
	}
}

func wantTile(t *testing.T, call string, got impl.TileResult, code int64, x int64, y int64) {
	t.Helper()
	if want := (impl.TileResult{Code: code, X: x, Y: y}); got != want {
		t.Errorf("%s: got %+v, want %+v", call, got, want)
	}
}

func wantInts(t *testing.T, call string, got impl.IntsResult, code int64, list ...int64) {
	t.Helper()
	same := got.Code == code && len(got.List) == len(list)
	for i := 0; same && i < len(list); i++ {
		same = got.List[i] == list[i]
	}
	if !same {
		t.Errorf("%s: got %+v, want code %d and %v", call, got, code, list)
	}
}

// outside is one below, one above, and the ends of the kind.
func outside(low int64, high int64) []int64 {
	return []int64{low - 1, high + 1, math.MinInt64, math.MaxInt64}
}

func TestCodesAndBounds(t *testing.T) {
	codes := []int64{impl.OK, impl.ErrForm, impl.ErrMany, impl.ErrRange, impl.ErrNone, impl.ErrText,
		impl.ErrTaken, impl.ErrFull, impl.ErrState, impl.ErrRight, impl.ErrPoor}
	for i, code := range codes {
		if code != int64(i) {
			t.Errorf("code number %d is %d", i, code)
		}
	}
	if impl.MaxPurse != 1000000 || impl.MaxSeed != 2147483646 || impl.MaxTile != 11 {
		t.Error("bounds", impl.MaxPurse, impl.MaxSeed, impl.MaxTile)
	}
}

func TestAddPurse(t *testing.T) {
	const most = impl.MaxPurse
	for _, c := range []struct{ a, b, code, value int64 }{
		{5, 7, impl.OK, 12},
		{5, -5, impl.OK, 0},
		{0, 0, impl.OK, 0},
		{0, most, impl.OK, most},
		{most, 0, impl.OK, most},
		{most, -most, impl.OK, 0},
		{1, most - 1, impl.OK, most},
		{0, -1, impl.ErrPoor, 0},
		{5, -6, impl.ErrPoor, 0},
		{0, -most, impl.ErrPoor, 0},
		{most - 1, -most, impl.ErrPoor, 0},
		{most, 1, impl.ErrFull, 0},
		{1, most, impl.ErrFull, 0},
		{most, most, impl.ErrFull, 0},
		// Poor or full as well, but the bounds are asked first.
		{-1, -1, impl.ErrRange, 0},
		{0, -most - 1, impl.ErrRange, 0},
		{most + 1, 1, impl.ErrRange, 0},
		{most, most + 1, impl.ErrRange, 0},
		// Together they are a purse, but one of them is out of its bounds.
		{-1, 1, impl.ErrRange, 0},
		{most + 1, -1, impl.ErrRange, 0},
		{most, -most - 1, impl.ErrRange, 0},
	} {
		wantInt(t, fmt.Sprintf("AddPurse(%d, %d)", c.a, c.b), impl.AddPurse(c.a, c.b), c.code, c.value)
	}
	for _, a := range outside(0, most) {
		for _, b := range []int64{0, 1, -1, most, -most, most + 1, -most - 1, math.MinInt64, math.MaxInt64} {
			wantInt(t, fmt.Sprintf("AddPurse(%d, %d)", a, b), impl.AddPurse(a, b), impl.ErrRange, 0)
		}
	}
	for _, b := range outside(-most, most) {
		for _, a := range []int64{0, 1, most} {
			wantInt(t, fmt.Sprintf("AddPurse(%d, %d)", a, b), impl.AddPurse(a, b), impl.ErrRange, 0)
		}
	}
}

func TestAddedAndTakenAgain(t *testing.T) {
	purses := []int64{0, 1, 2, 77, 499999, 500000, 500001, 999998, 999999, impl.MaxPurse}
	for _, a := range purses {
		for _, n := range purses {
			for _, b := range []int64{n, -n} {
				sum := impl.AddPurse(a, b)
				if sum.Code == impl.OK {
					wantInt(t, fmt.Sprintf("AddPurse(%d, %d) and back", a, b), impl.AddPurse(sum.Value, -b), impl.OK, a)
				} else if a+b >= 0 && a+b <= impl.MaxPurse {
					t.Errorf("AddPurse(%d, %d) tells %d", a, b, sum.Code)
				}
			}
		}
	}
}

func TestRootOf(t *testing.T) {
	for root := int64(0); root <= 1000000; root++ {
		v := root * root
		if got := impl.RootOf(v); got != (impl.IntResult{Value: root}) {
			t.Fatalf("RootOf(%d): got %+v, want %d", v, got, root)
		}
		if got := impl.RootOf(v - 1); root > 0 && got != (impl.IntResult{Value: root - 1}) {
			t.Fatalf("RootOf(%d): got %+v, want %d", v-1, got, root-1)
		}
	}
	wantInt(t, "RootOf(8)", impl.RootOf(8), impl.OK, 2)
	wantInt(t, "RootOf(10)", impl.RootOf(10), impl.OK, 3)
	wantInt(t, "RootOf(1000000000000)", impl.RootOf(1000000000000), impl.OK, 1000000)
	for _, v := range outside(0, 1000000000000) {
		wantInt(t, fmt.Sprintf("RootOf(%d)", v), impl.RootOf(v), impl.ErrRange, 0)
	}
}

func TestNextSeed(t *testing.T) {
	wantInt(t, "NextSeed(1)", impl.NextSeed(1), impl.OK, 48271)
	wantInt(t, "NextSeed(48271)", impl.NextSeed(48271), impl.OK, 182605794)
	wantInt(t, "NextSeed(MaxSeed)", impl.NextSeed(impl.MaxSeed), impl.OK, 2147435376)
	for _, seed := range outside(1, impl.MaxSeed) {
		wantInt(t, fmt.Sprintf("NextSeed(%d)", seed), impl.NextSeed(seed), impl.ErrRange, 0)
	}
}

func TestSeedsStayInTheirBounds(t *testing.T) {
	seed := int64(1)
	for i := range 10000 {
		next := impl.NextSeed(seed)
		if next.Code != impl.OK || next.Value < 1 || next.Value > impl.MaxSeed {
			t.Fatalf("step %d: NextSeed(%d) is %+v", i, seed, next)
		}
		seed = next.Value
	}
	// The number that is known of this generator at its ten-thousandth step.
	if seed != 399268537 {
		t.Errorf("after 10000 steps: %d", seed)
	}
}

func TestRollOf(t *testing.T) {
	wantInt(t, "RollOf(1, 1)", impl.RollOf(1, 1), impl.OK, 0)
	wantInt(t, "RollOf(1, 6)", impl.RollOf(1, 6), impl.OK, 1)
	wantInt(t, "RollOf(1, 1000)", impl.RollOf(1, 1000), impl.OK, 271)
	wantInt(t, "RollOf(MaxSeed, 1)", impl.RollOf(impl.MaxSeed, 1), impl.OK, 0)
	wantInt(t, "RollOf(MaxSeed, 1000)", impl.RollOf(impl.MaxSeed, 1000), impl.OK, 376)
	for _, seed := range outside(1, impl.MaxSeed) {
		for _, n := range []int64{1, 6, 1000, 0, 1001} {
			wantInt(t, fmt.Sprintf("RollOf(%d, %d)", seed, n), impl.RollOf(seed, n), impl.ErrRange, 0)
		}
	}
	for _, n := range outside(1, 1000) {
		for _, seed := range []int64{1, 48271, impl.MaxSeed} {
			wantInt(t, fmt.Sprintf("RollOf(%d, %d)", seed, n), impl.RollOf(seed, n), impl.ErrRange, 0)
		}
	}
}

func TestRollsStayInTheirBounds(t *testing.T) {
	for _, seed := range []int64{1, 2, 44488, 44489, 48271, 1073741823, impl.MaxSeed - 1, impl.MaxSeed} {
		next := impl.NextSeed(seed).Value
		for n := int64(1); n <= 1000; n++ {
			got := impl.RollOf(seed, n)
			if got.Code != impl.OK || got.Value < 0 || got.Value >= n || got.Value != next%n {
				t.Fatalf("RollOf(%d, %d) is %+v", seed, n, got)
			}
		}
	}
}

// eachPair calls try with every two tiles of the board.
func eachPair(try func(x1, y1, x2, y2 int64)) {
	const side = impl.MaxTile + 1
	for i := int64(0); i < side*side*side*side; i++ {
		try(i%side, i/side%side, i/side/side%side, i/side/side/side)
	}
}

func differ(a int64, b int64) int64 {
	return max(a-b, b-a)
}

func TestFarOf(t *testing.T) {
	wantInt(t, "FarOf(1, 2, 4, 0)", impl.FarOf(1, 2, 4, 0), impl.OK, 3)
	wantInt(t, "FarOf(2, 1, 0, 4)", impl.FarOf(2, 1, 0, 4), impl.OK, 3)
	wantInt(t, "FarOf(0, 0, 0, 0)", impl.FarOf(0, 0, 0, 0), impl.OK, 0)
	wantInt(t, "FarOf(0, 0, 11, 11)", impl.FarOf(0, 0, 11, 11), impl.OK, 11)
	wantInt(t, "FarOf(11, 0, 0, 0)", impl.FarOf(11, 0, 0, 0), impl.OK, 11)
	wantInt(t, "FarOf(0, 11, 0, 0)", impl.FarOf(0, 11, 0, 0), impl.OK, 11)
	eachPair(func(x1, y1, x2, y2 int64) {
		far := differ(x1, x2)
		if up := differ(y1, y2); up > far {
			far = up
		}
		wantInt(t, fmt.Sprintf("FarOf(%d, %d, %d, %d)", x1, y1, x2, y2), impl.FarOf(x1, y1, x2, y2), impl.OK, far)
	})
}

func TestStepTo(t *testing.T) {
	wantTile(t, "StepTo(1, 2, 4, 0)", impl.StepTo(1, 2, 4, 0), impl.OK, 2, 1)
	wantTile(t, "StepTo(4, 0, 1, 2)", impl.StepTo(4, 0, 1, 2), impl.OK, 3, 1)
	wantTile(t, "StepTo(3, 0, 3, 11)", impl.StepTo(3, 0, 3, 11), impl.OK, 3, 1)
	wantTile(t, "StepTo(11, 5, 0, 5)", impl.StepTo(11, 5, 0, 5), impl.OK, 10, 5)
	wantTile(t, "StepTo(0, 0, 0, 0)", impl.StepTo(0, 0, 0, 0), impl.OK, 0, 0)
	wantTile(t, "StepTo(11, 11, 11, 11)", impl.StepTo(11, 11, 11, 11), impl.OK, 11, 11)
}

func TestStepIsOneNearerUntilThere(t *testing.T) {
	nearer := func(from int64, to int64) int64 {
		return max(differ(from, to)-1, 0)
	}
	eachPair(func(x1, y1, x2, y2 int64) {
		got := impl.StepTo(x1, y1, x2, y2)
		if got.Code != impl.OK || differ(got.X, x1) > 1 || differ(got.Y, y1) > 1 ||
			differ(got.X, x2) != nearer(x1, x2) || differ(got.Y, y2) != nearer(y1, y2) {
			t.Errorf("StepTo(%d, %d, %d, %d) is %+v", x1, y1, x2, y2, got)
		}
		far := impl.FarOf(x1, y1, x2, y2).Value
		if left := impl.FarOf(got.X, got.Y, x2, y2); left.Code != impl.OK || left.Value != max(far-1, 0) {
			t.Errorf("StepTo(%d, %d, %d, %d): %d away, then %+v", x1, y1, x2, y2, far, left)
		}
	})
}

func TestWhatIsNoTile(t *testing.T) {
	for _, tile := range [][4]int64{{0, 0, 0, 0}, {11, 11, 11, 11}, {1, 2, 4, 0}} {
		for place := range tile {
			for _, bad := range outside(0, impl.MaxTile) {
				a := tile
				a[place] = bad
				wantInt(t, fmt.Sprintf("FarOf of %v", a), impl.FarOf(a[0], a[1], a[2], a[3]), impl.ErrRange, 0)
				wantTile(t, fmt.Sprintf("StepTo of %v", a), impl.StepTo(a[0], a[1], a[2], a[3]), impl.ErrRange, 0, 0)
			}
		}
	}
	// Both are out of bounds, and no further from each other than tiles may be.
	for _, bad := range outside(0, impl.MaxTile) {
		wantInt(t, fmt.Sprintf("FarOf all %d", bad), impl.FarOf(bad, bad, bad, bad), impl.ErrRange, 0)
		wantTile(t, fmt.Sprintf("StepTo all %d", bad), impl.StepTo(bad, bad, bad, bad), impl.ErrRange, 0, 0)
	}
}

func TestShareOf(t *testing.T) {
	wantInts(t, "ShareOf(7, 3)", impl.ShareOf(7, 3), impl.OK, 3, 2, 2)
	wantInts(t, "ShareOf(8, 3)", impl.ShareOf(8, 3), impl.OK, 3, 3, 2)
	wantInts(t, "ShareOf(9, 3)", impl.ShareOf(9, 3), impl.OK, 3, 3, 3)
	wantInts(t, "ShareOf(2, 4)", impl.ShareOf(2, 4), impl.OK, 1, 1, 0, 0)
	wantInts(t, "ShareOf(0, 1)", impl.ShareOf(0, 1), impl.OK, 0)
	wantInts(t, "ShareOf(0, 8)", impl.ShareOf(0, 8), impl.OK, 0, 0, 0, 0, 0, 0, 0, 0)
	wantInts(t, "ShareOf(MaxPurse, 1)", impl.ShareOf(impl.MaxPurse, 1), impl.OK, impl.MaxPurse)
	wantInts(t, "ShareOf(MaxPurse, 3)", impl.ShareOf(impl.MaxPurse, 3), impl.OK, 333334, 333333, 333333)
	for _, n := range outside(0, impl.MaxPurse) {
		for _, parts := range []int64{1, 3, 8, 0, 9} {
			wantInts(t, fmt.Sprintf("ShareOf(%d, %d)", n, parts), impl.ShareOf(n, parts), impl.ErrRange)
		}
	}
	for _, parts := range outside(1, 8) {
		for _, n := range []int64{0, 7, impl.MaxPurse} {
			wantInts(t, fmt.Sprintf("ShareOf(%d, %d)", n, parts), impl.ShareOf(n, parts), impl.ErrRange)
		}
	}
}

func TestSharesAreAllOfIt(t *testing.T) {
	for parts := int64(1); parts <= 8; parts++ {
		for n := int64(0); n <= impl.MaxPurse; n += 1 + n/50 {
			checkShares(t, n, parts)
		}
		checkShares(t, impl.MaxPurse-1, parts)
		checkShares(t, impl.MaxPurse, parts)
	}
}

func checkShares(t *testing.T, n int64, parts int64) {
	t.Helper()
	got := impl.ShareOf(n, parts)
	if got.Code != impl.OK || int64(len(got.List)) != parts {
		t.Fatalf("ShareOf(%d, %d) is %+v", n, parts, got)
	}
	sum := int64(0)
	for i, share := range got.List {
		sum += share
		if i > 0 && share > got.List[i-1] {
			t.Errorf("ShareOf(%d, %d): %v has the greater ones not first", n, parts, got.List)
		}
	}
	if first, last := got.List[0], got.List[parts-1]; sum != n || first-last > 1 || last < 0 {
		t.Errorf("ShareOf(%d, %d) is %v", n, parts, got.List)
	}
}

// numberEdges are the ends of every bound of the chapter, one beyond each, and the ends of the kind.
func numberEdges() []int64 {
	list := []int64{math.MinInt64, math.MinInt64 + 1, math.MaxInt64 - 1, math.MaxInt64, 1 << 31, 1 << 32, -1 << 32, 1 << 62}
	for _, bound := range []int64{-impl.MaxPurse, 0, 1, 8, impl.MaxTile, 1000, impl.MaxPurse, impl.MaxSeed, 1000000000000} {
		list = append(list, bound-1, bound, bound+1)
	}
	return list
}

// numberAnswers calls every function of the chapter with a and b, and hands back all that they tell.
func numberAnswers(a int64, b int64) []any {
	return []any{
		impl.AddPurse(a, b), impl.RootOf(a), impl.NextSeed(a), impl.RollOf(a, b),
		impl.FarOf(a, b, b, a), impl.FarOf(0, a, b, 0), impl.StepTo(a, b, b, a), impl.StepTo(0, a, b, 0),
		impl.ShareOf(a, b),
	}
}

func TestNumbersHangOnTheirArgumentsAlone(t *testing.T) {
	edges := numberEdges()
	first := map[[2]int64][]any{}
	for _, a := range edges {
		for _, b := range edges {
			first[[2]int64{a, b}] = numberAnswers(a, b)
		}
	}
	for i := len(edges) - 1; i >= 0; i-- {
		for _, b := range edges {
			again := numberAnswers(edges[i], b)
			if want := first[[2]int64{edges[i], b}]; !reflect.DeepEqual(again, want) {
				t.Errorf("of %d and %d: first %v, then %v", edges[i], b, want, again)
			}
		}
	}
}

func TestNumbersWithACodeAreZeroElse(t *testing.T) {
	for _, a := range numberEdges() {
		for _, b := range numberEdges() {
			for i, answer := range numberAnswers(a, b) {
				code, rest := int64(0), true
				switch x := answer.(type) {
				case impl.IntResult:
					code, rest = x.Code, x.Value != 0
				case impl.TileResult:
					code, rest = x.Code, x.X != 0 || x.Y != 0
				case impl.IntsResult:
					code, rest = x.Code, len(x.List) != 0
				}
				poorOrFull := i == 0 && (code == impl.ErrPoor || code == impl.ErrFull)
				if code != impl.OK && (rest || code != impl.ErrRange && !poorOrFull) {
					t.Errorf("call %d of %d and %d: %+v", i, a, b, answer)
				}
			}
		}
	}
}

func TestSharesAreNewMemory(t *testing.T) {
	first := impl.ShareOf(7, 3)
	second := impl.ShareOf(7, 3)
	for i := range first.List {
		first.List[i] = 99
	}
	// What lies behind the end of a list must not be another's, either.
	_ = append(first.List, 99, 99, 99, 99, 99)
	wantInts(t, "ShareOf(7, 3) that was there already", second, impl.OK, 3, 2, 2)
	wantInts(t, "ShareOf(7, 3) again", impl.ShareOf(7, 3), impl.OK, 3, 2, 2)
	wantInts(t, "ShareOf(0, 8) behind it", impl.ShareOf(0, 8), impl.OK, 0, 0, 0, 0, 0, 0, 0, 0)
}
