package impl

const OK = 0
const ErrForm = 1
const ErrMany = 2
const ErrRange = 3
const ErrNone = 4
const ErrText = 5
const ErrTaken = 6
const ErrFull = 7
const ErrState = 8
const ErrRight = 9
const ErrPoor = 10
const MaxPurse = 1000000
const MaxSeed = 2147483646
const MaxTile = 11

const seedFactor = 48271
const maxRoll = 1000
const maxParts = 8
const maxSquare = 1000000000000

// The root of maxSquare is below twice this, so that the bits from here down make up every root.
const topRootBit = 1 << 19

type IntResult struct {
	Code  int64
	Value int64
}
type BytesResult struct {
	Code  int64
	Bytes []byte
}
type TextResult struct {
	Code int64
	Text string
}
type IntsResult struct {
	Code int64
	List []int64
}
type TileResult struct {
	Code int64
	X    int64
	Y    int64
}

func AddPurse(a int64, b int64) IntResult {
	if !isPurse(a) || b < -MaxPurse || b > MaxPurse {
		return IntResult{Code: ErrRange}
	}
	sum := a + b
	if sum < 0 {
		return IntResult{Code: ErrPoor}
	}
	if sum > MaxPurse {
		return IntResult{Code: ErrFull}
	}
	return IntResult{Value: sum}
}

func RootOf(v int64) IntResult {
	if v < 0 || v > maxSquare {
		return IntResult{Code: ErrRange}
	}
	root := int64(0)
	for bit := int64(topRootBit); bit > 0; bit /= 2 {
		if next := root + bit; next*next <= v {
			root = next
		}
	}
	return IntResult{Value: root}
}

func NextSeed(seed int64) IntResult {
	if !isSeed(seed) {
		return IntResult{Code: ErrRange}
	}
	return IntResult{Value: int64(seedAfter(uint64(seed)))}
}

func RollOf(seed int64, n int64) IntResult {
	if !isSeed(seed) || n < 1 || n > maxRoll {
		return IntResult{Code: ErrRange}
	}
	return IntResult{Value: int64(seedAfter(uint64(seed)) % uint64(n))}
}

func FarOf(x1 int64, y1 int64, x2 int64, y2 int64) IntResult {
	if !isTile(x1, y1) || !isTile(x2, y2) {
		return IntResult{Code: ErrRange}
	}
	return IntResult{Value: max(gapOf(x1, x2), gapOf(y1, y2))}
}

func StepTo(x1 int64, y1 int64, x2 int64, y2 int64) TileResult {
	if !isTile(x1, y1) || !isTile(x2, y2) {
		return TileResult{Code: ErrRange}
	}
	return TileResult{X: oneNearer(x1, x2), Y: oneNearer(y1, y2)}
}

func ShareOf(n int64, parts int64) IntsResult {
	if !isPurse(n) || parts < 1 || parts > maxParts {
		return IntsResult{Code: ErrRange}
	}
	list := make([]int64, parts)
	for i := range parts {
		list[i] = n / parts
		if i < n%parts {
			list[i]++
		}
	}
	return IntsResult{List: list}
}

func isPurse(v int64) bool {
	return v >= 0 && v <= MaxPurse
}

func isSeed(v int64) bool {
	return v >= 1 && v <= MaxSeed
}

func isTile(x int64, y int64) bool {
	return x >= 0 && x <= MaxTile && y >= 0 && y <= MaxTile
}

// The product of the greatest seed is below 2^47, so the wrap-round of the unsigned kind never comes in.
func seedAfter(seed uint64) uint64 {
	return seed * seedFactor % (MaxSeed + 1)
}

func gapOf(a int64, b int64) int64 {
	if a < b {
		return b - a
	}
	return a - b
}

func oneNearer(from int64, to int64) int64 {
	if from < to {
		return from + 1
	}
	if from > to {
		return from - 1
	}
	return from
}
