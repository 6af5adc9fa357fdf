package tests

import (
	"bytes"
	"encoding/binary"
	"fmt"
	"math"
	"reflect"
	"runtime"
	"slices"
	"testing"
	"time"

	"loop.example/g00646/impl"
)

// leastSize is that of a world without lists, mostSize that of one with the most of each.
const leastSize = 4 * 18
const mostSize = 4 * 146

func numbersByHand(w impl.World) []int64 {
	list := []int64{w.Tick, w.Spent, int64(len(w.Board.Units))}
	for _, u := range w.Board.Units {
		list = append(list, u.Id, u.Owner, u.X, u.Y, u.Life, u.Carry, u.Job, u.ToX, u.ToY, u.Prey)
	}
	list = append(list, int64(len(w.Board.Fields)))
	for _, f := range w.Board.Fields {
		list = append(list, f.X, f.Y, f.Left)
	}
	for _, f := range w.Factions {
		list = append(list, f.Purse, map[bool]int64{true: 1}[f.Gone], f.Allies)
	}
	list = append(list, int64(len(w.Seats)))
	for _, s := range w.Seats {
		list = append(list, s.Client, s.Faction, s.Mask, s.Last)
	}
	list = append(list, int64(len(w.Offers)))
	for _, o := range w.Offers {
		list = append(list, o.From, o.To)
	}
	return list
}

func bytesByHand(list []int64) []byte {
	var data []byte
	for _, v := range list {
		data = binary.BigEndian.AppendUint32(data, uint32(v))
	}
	return data
}

func worldBytes(w impl.World) []byte {
	return bytesByHand(numbersByHand(w))
}

// handReader has numbers that are not taken yet, and whether more were asked for than there were.
type handReader struct {
	list  []int64
	short bool
}

func (r *handReader) take(n int64) []int64 {
	if r.short || n > int64(len(r.list)) {
		r.short = true
		return make([]int64, 20)
	}
	taken := r.list[:n]
	r.list = r.list[n:]
	return taken
}

func (r *handReader) count(most int64) int64 {
	n := r.take(1)[0]
	if n > most {
		r.short = true
		return 0
	}
	return n
}

// readByHand tells what is wrong with bytes, where the program holds what it read against them.
func readByHand(data []byte) (w impl.World, ok bool) {
	if len(data)%4 != 0 || len(data) > mostSize {
		return impl.World{}, false
	}
	r := handReader{}
	for at := 0; at < len(data); at += 4 {
		r.list = append(r.list, int64(binary.BigEndian.Uint32(data[at:])))
	}
	head := r.take(2)
	w.Tick, w.Spent = head[0], head[1]
	for range r.count(8) {
		v := r.take(10)
		w.Board.Units = append(w.Board.Units, impl.Unit{Id: v[0], Owner: v[1], X: v[2], Y: v[3], Life: v[4], Carry: v[5], Job: v[6], ToX: v[7], ToY: v[8], Prey: v[9]})
	}
	for range r.count(4) {
		v := r.take(3)
		w.Board.Fields = append(w.Board.Fields, impl.Field{X: v[0], Y: v[1], Left: v[2]})
	}
	for range 4 {
		v := r.take(3)
		r.short = r.short || v[1] > 1
		w.Factions = append(w.Factions, impl.Faction{Purse: v[0], Gone: v[1] == 1, Allies: v[2]})
	}
	for range r.count(6) {
		v := r.take(4)
		w.Seats = append(w.Seats, impl.Seat{Client: v[0], Faction: v[1], Mask: v[2], Last: v[3]})
	}
	for range r.count(6) {
		v := r.take(2)
		w.Offers = append(w.Offers, impl.Offer{From: v[0], To: v[1]})
	}
	if r.short || len(r.list) > 0 || worldFaultByHand(w) != impl.OK {
		return impl.World{}, false
	}
	return w, true
}

// checkRead holds what is read of bytes against what is read by hand, and tells whether it is a world.
func checkRead(t *testing.T, data []byte) bool {
	t.Helper()
	got := impl.ReadWorld(data)
	want, ok := readByHand(data)
	call := fmt.Sprintf("ReadWorld(%v)", data)
	if !ok {
		wantNoWorld(t, call, got, impl.ErrText)
		return false
	}
	wantWorld(t, call, got, impl.WorldResult{World: want})
	wantBytes(t, call+" packed again", impl.PackWorld(got.World), impl.OK, data)
	return true
}

func wantUnreadWorld(t *testing.T, about string, data []byte) {
	t.Helper()
	wantNoWorld(t, about, impl.ReadWorld(data), impl.ErrText)
	if checkRead(t, data) {
		t.Errorf("%s: read by hand", about)
	}
}

// fullWorld has the most of each, and the greatest number of each kind, as far as one world can.
func fullWorld() impl.World {
	w := impl.World{Tick: 9999, Spent: 100000000}
	for i := range int64(8) {
		u := impl.Unit{Id: 92 + i, Owner: 3, X: 11, Y: 11, Life: 50, Carry: 20, Job: i % 4}
		switch u.Job {
		case impl.DoMove:
			u.ToX, u.ToY = 11, 11
		case impl.DoHarvest:
			u.Prey = 3
		case impl.DoAttack:
			u.Prey = 98
		}
		w.Board.Units = append(w.Board.Units, u)
	}
	w.Board.Units[0].Owner, w.Board.Units[3].Prey = impl.Nobody, 99
	for range 4 {
		w.Board.Fields = append(w.Board.Fields, impl.Field{X: 11, Y: 11, Left: 10000})
	}
	w.Factions = []impl.Faction{{Purse: 1000000}, {Purse: 1000000}, {Purse: 1000000, Allies: 8}, {Purse: 1000000, Allies: 4}}
	for client := range int64(6) {
		w.Seats = append(w.Seats, impl.Seat{Client: client, Faction: 3, Mask: 2047, Last: 999})
	}
	w.Offers = []impl.Offer{{From: 3, To: 1}, {From: 1, To: 3}, {From: 3, To: 0}, {From: 0, To: 3}, {From: 2, To: 1}, {From: 1, To: 2}}
	return w
}

// jobWorld has a unit of each job, fields, a faction that is Gone, allies, seats and offers.
func jobWorld() impl.World {
	return impl.World{
		Tick:  9999,
		Spent: 100000000,
		Board: impl.Board{
			Units: []impl.Unit{
				{Id: 1, Owner: 0, X: 11, Y: 0, Life: 50, Carry: 20},
				{Id: 2, Owner: 1, X: 3, Y: 4, Life: 5, Carry: 6, Job: impl.DoMove, ToX: 7, ToY: 8},
				{Id: 50, Owner: impl.Nobody, X: 1, Y: 2, Life: 3, Carry: 4, Job: impl.DoHarvest, Prey: 3},
				{Id: 99, Owner: 2, X: 10, Y: 9, Life: 8, Carry: 7, Job: impl.DoAttack, Prey: 50},
			},
			Fields: []impl.Field{{X: 5, Y: 6, Left: 10000}, {X: 7, Y: 8, Left: 0}},
		},
		Factions: []impl.Faction{{Purse: 1000000, Allies: 6}, {Purse: 258, Allies: 1}, {Purse: 66051, Allies: 1}, {Purse: 3, Gone: true}},
		Seats:    []impl.Seat{{Client: 0, Faction: 0, Mask: 2047, Last: 999}, {Client: 3, Faction: 1, Mask: 1024}, {Client: 5, Faction: 2, Last: 500}},
		Offers:   []impl.Offer{{From: 1, To: 2}, {From: 2, To: 1}},
	}
}

func packedWorlds(n int) []impl.World {
	return append(mendedWorlds(n), fullWorld(), jobWorld(), gateWorld(), allied(), threeHeirs(), workers(), busyWorld())
}

func TestEachNumberInItsPlace(t *testing.T) {
	list := []int64{
		9999, 100000000,
		4,
		1, 0, 11, 0, 50, 20, 0, 0, 0, 0,
		2, 1, 3, 4, 5, 6, 1, 7, 8, 0,
		50, 9, 1, 2, 3, 4, 2, 0, 0, 3,
		99, 2, 10, 9, 8, 7, 3, 0, 0, 50,
		2,
		5, 6, 10000,
		7, 8, 0,
		1000000, 0, 6,
		258, 0, 1,
		66051, 0, 1,
		3, 1, 0,
		3,
		0, 0, 2047, 999,
		3, 1, 1024, 0,
		5, 2, 0, 500,
		2,
		1, 2,
		2, 1,
	}
	data := bytesByHand(list)
	wantBytes(t, "PackWorld", impl.PackWorld(jobWorld()), impl.OK, data)
	wantWorld(t, "ReadWorld", impl.ReadWorld(data), impl.WorldResult{World: jobWorld()})
	wantInt(t, "SumWorld", impl.SumWorld(jobWorld()), impl.OK, 60835)
}

func TestTheHighestByteFirst(t *testing.T) {
	packed := impl.PackWorld(jobWorld()).Bytes
	for _, c := range []struct {
		place int
		data  []byte
	}{
		{0, []byte{0, 0, 39, 15}}, {1, []byte{5, 245, 225, 0}}, {2, []byte{0, 0, 0, 4}}, {3, []byte{0, 0, 0, 1}},
		{46, []byte{0, 0, 39, 16}}, {50, []byte{0, 15, 66, 64}}, {53, []byte{0, 0, 1, 2}}, {56, []byte{0, 1, 2, 3}},
		{60, []byte{0, 0, 0, 1}}, {65, []byte{0, 0, 7, 255}}, {66, []byte{0, 0, 3, 231}}, {79, []byte{0, 0, 0, 1}},
	} {
		if got := packed[4*c.place : 4*c.place+4]; !bytes.Equal(got, c.data) {
			t.Errorf("number %d: got %v, want %v", c.place, got, c.data)
		}
	}
}

func TestTheLeastAndTheMostThereCanBe(t *testing.T) {
	zero := make([]byte, leastSize)
	wantBytes(t, "a new world", impl.PackWorld(impl.NewWorld().World), impl.OK, zero)
	wantWorld(t, "a new world read", impl.ReadWorld(zero), impl.NewWorld())
	for _, w := range []impl.World{fullWorld(), goodWorlds()[3]} {
		if got := len(impl.PackWorld(w).Bytes); got != mostSize || got != len(worldBytes(w)) {
			t.Errorf("the most: %d bytes", got)
		}
	}
	for _, c := range []struct {
		name string
		turn func(w *impl.World)
		size int
	}{
		{"all", func(w *impl.World) {}, 80},
		{"no unit", func(w *impl.World) { w.Board.Units = nil }, 40},
		{"one unit", func(w *impl.World) { w.Board.Units = w.Board.Units[:1] }, 50},
		{"no field", func(w *impl.World) { w.Board.Fields = []impl.Field{} }, 74},
		{"no board", func(w *impl.World) { w.Board = impl.Board{} }, 34},
		{"no seat", func(w *impl.World) { w.Seats = nil }, 68},
		{"six seats", func(w *impl.World) { w.Factions[3].Gone, w.Seats = false, seatsOf(6) }, 92},
		{"no offer", func(w *impl.World) { w.Offers = []impl.Offer{} }, 76},
		{"nothing but factions", func(w *impl.World) { w.Board, w.Seats, w.Offers = impl.Board{}, nil, nil }, 18},
	} {
		w := turned(jobWorld(), c.turn)
		if got := impl.PackWorld(w); got.Code != impl.OK || len(got.Bytes) != 4*c.size {
			t.Errorf("%s: %+v", c.name, got)
		}
		checkPackedAndRead(t, w)
	}
}

// checkPackedAndRead packs a world, reads it back, and packs it again.
func checkPackedAndRead(t *testing.T, w impl.World) {
	t.Helper()
	data := worldBytes(w)
	packed := impl.PackWorld(w)
	wantBytes(t, fmt.Sprintf("PackWorld(%+v)", w), packed, impl.OK, data)
	read := impl.ReadWorld(packed.Bytes)
	wantWorld(t, fmt.Sprintf("ReadWorld of %+v", w), read, impl.WorldResult{World: w})
	if !impl.SameWorlds(read.World, w) {
		t.Errorf("not the same: %+v and %+v", read.World, w)
	}
	wantBytes(t, fmt.Sprintf("again: PackWorld(%+v)", w), impl.PackWorld(read.World), impl.OK, data)
	sum := sumByHand(data)
	wantInt(t, fmt.Sprintf("SumWorld(%+v)", w), impl.SumWorld(w), impl.OK, sum)
	wantInt(t, fmt.Sprintf("again: SumWorld(%+v)", w), impl.SumWorld(read.World), impl.OK, sum)
	checkRead(t, data)
}

func TestWorldsArePackedAndReadBack(t *testing.T) {
	for _, w := range packedWorlds(3000) {
		checkPackedAndRead(t, w)
	}
}

func TestTheGreatestOfEachNumber(t *testing.T) {
	bases := []impl.World{impl.NewWorld().World, jobWorld(), fullWorld(), midWorld()}
	read := 0
	for _, base := range bases {
		w := copyOfWorld(base)
		at, edges := numbersOfWorld(&w)
		for i := range at {
			was := *at[i]
			for _, v := range edges[i] {
				*at[i] = v
				if worldFaultByHand(w) == impl.OK {
					read++
					checkPackedAndRead(t, w)
				}
			}
			*at[i] = was
		}
	}
	if read < 100 {
		t.Error("too few", read)
	}
}

// wantNotPacked asks for a code of the world's fault in both, and that all else is zero.
func wantNotPacked(t *testing.T, w impl.World, code int64) {
	t.Helper()
	was := copyOfWorld(w)
	if got := impl.PackWorld(w); !reflect.DeepEqual(got, impl.BytesResult{Code: code}) {
		t.Errorf("PackWorld(%+v): got %+v, want code %d and nothing else", w, got, code)
	}
	wantInt(t, fmt.Sprintf("SumWorld(%+v)", w), impl.SumWorld(w), code, 0)
	if !sameByHand(fullOf(w), fullOf(was)) {
		t.Errorf("changed: %+v", was)
	}
}

func TestWorldsWithAFaultAreNotPacked(t *testing.T) {
	met := map[int64]int{}
	for _, w := range append(append(faultyWorlds(), otherWorlds()...), someWorlds(3000)...) {
		if code := worldFaultByHand(w); code != impl.OK {
			met[code]++
			wantNotPacked(t, w, code)
		}
	}
	for _, code := range []int64{impl.ErrForm, impl.ErrMany, impl.ErrRange} {
		if met[code] < 3 {
			t.Error("too few of one kind", met)
		}
	}
}

func TestPackedWorldsAskInOrder(t *testing.T) {
	for _, c := range []worldCase{
		{"Tick ahead of how many units", midWorld(), func(w *impl.World) { w.Tick, w.Board = 10000, boardOf(9, 0) }, impl.ErrRange},
		{"Spent ahead of a unit's form", midWorld(), func(w *impl.World) { w.Spent, w.Board.Units[1].Id = -1, 4 }, impl.ErrRange},
		{"how many units ahead of a unit", midWorld(), func(w *impl.World) { w.Board = boardOf(9, 0); w.Board.Units[0].Life = 0 }, impl.ErrMany},
		{"a unit's form ahead of how many factions", midWorld(), func(w *impl.World) { w.Board.Units[0].Prey, w.Factions = 1, nil }, impl.ErrForm},
		{"a field ahead of how many seats", midWorld(), func(w *impl.World) { w.Board.Fields[0].X, w.Seats = 12, seatsOf(7) }, impl.ErrRange},
		{"how many offers ahead of a purse", midWorld(), func(w *impl.World) { w.Offers, w.Factions[0].Purse = make([]impl.Offer, 7), -1 }, impl.ErrMany},
		{"a purse ahead of allies", midWorld(), func(w *impl.World) { w.Factions[0] = impl.Faction{Purse: -1, Allies: 1} }, impl.ErrRange},
		{"allies ahead of a seat", midWorld(), func(w *impl.World) { w.Factions[3].Allies, w.Seats[0].Mask = 8, 2048 }, impl.ErrForm},
		{"a seat ahead of a seat's form", midWorld(), func(w *impl.World) { w.Seats[1].Last, w.Seats[2].Client = 1000, 3 }, impl.ErrRange},
		{"a seat's form ahead of an offer", midWorld(), func(w *impl.World) { w.Seats[2].Client, w.Offers[0].To = 3, 4 }, impl.ErrForm},
		{"an offer ahead of an owner", goneWorld(), func(w *impl.World) { w.Offers[0].To, w.Board.Units[0].Owner = 4, 3 }, impl.ErrRange},
		{"an owner", goneWorld(), func(w *impl.World) { w.Board.Units[0].Owner = 3 }, impl.ErrForm},
	} {
		w := turned(c.base, c.turn)
		if worldFaultByHand(w) != c.code {
			t.Errorf("%s: by hand %d", c.name, worldFaultByHand(w))
		}
		wantNotPacked(t, w, c.code)
	}
}

func TestNumbersFarOutOfBoundsAreNotPacked(t *testing.T) {
	w := jobWorld()
	var at []*int64
	for i := range w.Board.Units {
		at = append(at, fieldsOfUnit(&w.Board.Units[i])...)
	}
	for i := range w.Board.Fields {
		at = append(at, &w.Board.Fields[i].X, &w.Board.Fields[i].Y)
	}
	others, _ := numbersOfWorld(&w)
	for _, v := range append(at, others...) {
		was := *v
		// What four bytes would cut off must not be left out of account.
		for _, far := range []int64{math.MinInt64, math.MaxInt64, -1, 1<<32 + was, was - 1<<32, 1<<62 + was} {
			*v = far
			code := worldFaultByHand(w)
			if code == impl.OK {
				t.Fatalf("no fault: %+v", w)
			}
			wantNotPacked(t, w, code)
		}
		*v = was
	}
}

func TestNoBytesAndBytesOfOneKind(t *testing.T) {
	wantUnreadWorld(t, "nil", nil)
	wantUnreadWorld(t, "none", []byte{})
	for size := range mostSize + 100 {
		for _, b := range []byte{0, 1, 2, 127, 128, 255} {
			data := bytes.Repeat([]byte{b}, size)
			if got := checkRead(t, data); got != (b == 0 && size == leastSize) {
				t.Errorf("%d bytes %d: read is %v", size, b, got)
			}
		}
	}
}

func TestBytesOfAWorldThatAreTooFewOrTooMany(t *testing.T) {
	for _, w := range append(packedWorlds(20), impl.NewWorld().World) {
		data := worldBytes(w)
		for size := range data {
			wantUnreadWorld(t, fmt.Sprint("the first bytes: ", size), data[:size])
			// What is left without the first bytes may be a world by itself.
			checkRead(t, data[size+1:])
		}
		for _, b := range []byte{0, 1, 255} {
			wantUnreadWorld(t, "one more", append(bytes.Clone(data), b))
			wantUnreadWorld(t, "one more ahead", append([]byte{b}, data...))
			for more := 2; more <= 12; more++ {
				wantUnreadWorld(t, "more", append(bytes.Clone(data), bytes.Repeat([]byte{b}, more)...))
			}
		}
		wantUnreadWorld(t, "twice", append(bytes.Clone(data), data...))
		wantUnreadWorld(t, "many more", append(bytes.Clone(data), make([]byte, 100000)...))
	}
}

// countPlaces are those of how many units, fields, seats and offers there are.
func countPlaces(w impl.World) [4]int {
	fields := 3 + 10*len(w.Board.Units)
	seats := fields + 1 + 3*len(w.Board.Fields) + 12
	return [4]int{2, fields, seats, seats + 1 + 4*len(w.Seats)}
}

// largeCounts are such that what they ask for leaves 32 or 64 bits, or just does not.
func largeCounts() []int64 {
	list := []int64{1<<32 - 1, 1<<32 - 2, 1 << 31, 1<<31 - 1, 1<<31 + 1, 1 << 30, 1<<30 + 1, 1 << 29, 1 << 28, 1 << 24, 1 << 16, 1 << 8, 256 + 4}
	for _, size := range []int64{2, 3, 4, 10, 8, 12, 16, 40} {
		list = append(list, 1<<32/size, 1<<32/size+1, 1<<31/size, 1<<31/size+1)
	}
	return list
}

func TestCountsAboveWhatTheDataHolds(t *testing.T) {
	for _, w := range append(packedWorlds(30), impl.NewWorld().World) {
		list := numbersByHand(w)
		for _, place := range countPlaces(w) {
			was := list[place]
			for _, v := range append(largeCounts(), 0, 1, 2, 3, 4, 5, 6, 7, 8, 9, 10, 16, 255, was+1) {
				list[place] = v
				if checkRead(t, bytesByHand(list)) && v != was {
					// With another count all behind it stands elsewhere, and of these worlds no other one comes then.
					t.Errorf("read with the count %d in place %d for %d: %+v", v, place, was, w)
				}
			}
			list[place] = was
		}
	}
}

func TestLargeCountsTakeNeitherMemoryNorTime(t *testing.T) {
	began := time.Now()
	full := fullWorld()
	for _, w := range []impl.World{impl.NewWorld().World, jobWorld(), full} {
		for _, place := range countPlaces(w) {
			for _, v := range largeCounts() {
				list := numbersByHand(w)
				list[place] = v
				cut, long := bytesByHand(list[:place+1]), append(bytesByHand(list), make([]byte, 1<<16)...)
				for _, data := range [][]byte{cut, bytesByHand(list), long} {
					var was, now runtime.MemStats
					runtime.ReadMemStats(&was)
					got := impl.ReadWorld(data)
					runtime.ReadMemStats(&now)
					wantNoWorld(t, fmt.Sprint("count ", v), got, impl.ErrText)
					if took := now.TotalAlloc - was.TotalAlloc; took > 1<<18 {
						t.Errorf("the count %d in place %d took %d bytes", v, place, took)
					}
				}
			}
		}
	}
	if took := time.Since(began); took > time.Minute {
		t.Error("took long:", took)
	}
}

func TestMoreThanTheMostWithAllTheirBytes(t *testing.T) {
	// Here the data holds all that its counts tell, and no world has so many.
	for _, c := range []struct {
		name string
		turn func(w *impl.World)
	}{
		{"nine units", func(w *impl.World) { w.Board = boardOf(9, 0) }},
		{"many units", func(w *impl.World) { w.Board.Units = make([]impl.Unit, 3000) }},
		{"five fields", func(w *impl.World) { w.Board.Fields = make([]impl.Field, 5) }},
		{"seven seats", func(w *impl.World) { w.Seats = seatsOf(7) }},
		{"seven offers", func(w *impl.World) { w.Offers = append(sixOffers(), impl.Offer{From: 3, To: 0}) }},
		{"three factions", func(w *impl.World) { w.Factions = w.Factions[:3] }},
		{"five factions", func(w *impl.World) { w.Factions = append(w.Factions, impl.Faction{}) }},
	} {
		w := turned(impl.NewWorld().World, c.turn)
		wantUnreadWorld(t, c.name, worldBytes(w))
	}
}

func TestAGoneThatIsNeither(t *testing.T) {
	for _, w := range []impl.World{impl.NewWorld().World, jobWorld(), goodWorlds()[5], fullWorld()} {
		first := countPlaces(w)[2] - 12
		for side := range w.Factions {
			list := numbersByHand(w)
			for _, v := range []int64{2, 3, 255, 256, 257, 65536, 65537, 1 << 24, 1<<24 + 1, 1 << 31, 1<<32 - 1} {
				list[first+3*side+1] = v
				wantUnreadWorld(t, fmt.Sprintf("Gone of %d is %d", side, v), bytesByHand(list))
			}
		}
	}
	// With 1 one who has nothing is Gone.
	data := make([]byte, leastSize)
	data[4*(4+3*2+1)+3] = 1
	want := turned(impl.NewWorld().World, func(w *impl.World) { w.Factions[2].Gone = true })
	wantWorld(t, "one is Gone", impl.ReadWorld(data), impl.WorldResult{World: want})
}

func TestBytesOfWorldsWithAFault(t *testing.T) {
	met := map[int64]int{}
	for _, w := range append(append(faultyWorlds(), otherWorlds()...), someWorlds(2000)...) {
		if code := worldFaultByHand(w); code != impl.OK {
			met[code]++
			wantUnreadWorld(t, fmt.Sprintf("bytes of %+v", w), worldBytes(w))
		}
	}
	if met[impl.ErrForm] < 100 || met[impl.ErrRange] < 10 || met[impl.ErrMany] < 3 {
		t.Error("too few of one kind", met)
	}
}

func TestEachNumberOfTheBytesAtItsEdges(t *testing.T) {
	edges := []int64{0, 1, 2, 3, 4, 5, 8, 9, 10, 11, 12, 15, 16, 20, 21, 50, 51, 99, 100, 256, 999, 1000, 2047, 2048, 9999, 10000, 10001,
		65536, 1000000, 1000001, 100000000, 100000001, 1<<31 - 1, 1 << 31, 1<<32 - 1}
	read, unread := 0, 0
	for _, w := range []impl.World{impl.NewWorld().World, jobWorld(), fullWorld(), gateWorld(), goneWorld()} {
		list := numbersByHand(w)
		for place, was := range list {
			for _, v := range append(edges, was+1, 1<<31+was, 1<<16+was, 1<<24+was) {
				list[place] = v
				if checkRead(t, bytesByHand(list)) {
					read++
				} else {
					unread++
				}
			}
			list[place] = was
		}
	}
	if read < 1000 || unread < 5000 {
		t.Error("too few of one kind", read, unread)
	}
}

func TestEveryByteTurned(t *testing.T) {
	read := 0
	for _, w := range []impl.World{impl.NewWorld().World, jobWorld()} {
		data, sum := worldBytes(w), impl.SumWorld(w)
		for i, was := range data {
			for b := range 256 {
				data[i] = byte(b)
				if byte(b) == was || !checkRead(t, data) {
					continue
				}
				read++
				// One byte turned alone is always seen in the sum.
				if other := impl.SumWorld(impl.ReadWorld(data).World); other == sum || other.Value != sumByHand(data) {
					t.Errorf("byte %d turned to %d: the sums are %+v and %+v", i, b, sum, other)
				}
			}
			data[i] = was
		}
	}
	if read < 1000 {
		t.Error("too few", read)
	}
}

func TestSumsOfSmallWorlds(t *testing.T) {
	bare := impl.NewWorld().World
	wantInt(t, "a new world", impl.SumWorld(bare), impl.OK, 11126)
	wantInt(t, "Spent 1", impl.SumWorld(turned(bare, func(w *impl.World) { w.Spent = 1 })), impl.OK, 62347)
	wantInt(t, "Tick 1", impl.SumWorld(turned(bare, func(w *impl.World) { w.Tick = 1 })), impl.OK, 29697)
}

func TestWhoHasTheSameHasOneSum(t *testing.T) {
	worlds := packedWorlds(300)
	for _, w := range worlds {
		sum := impl.SumWorld(w)
		same := []impl.World{copyOfWorld(w), impl.ReadWorld(worldBytes(w)).World, turned(w, func(w *impl.World) {
			// What lies behind the ends is not the world's.
			w.Board.Units = append(w.Board.Units, impl.Unit{Id: 77})[:len(w.Board.Units)]
			w.Seats = append(w.Seats, impl.Seat{Client: 77})[:len(w.Seats)]
			w.Offers = append(w.Offers, impl.Offer{From: 77})[:len(w.Offers)]
		})}
		for _, other := range same {
			if got := impl.SumWorld(other); got != sum || got.Code != impl.OK {
				t.Errorf("SumWorld(%+v): got %+v and %+v", w, sum, got)
			}
		}
		if sum.Value < 0 || sum.Value >= 65521 {
			t.Errorf("SumWorld(%+v): %+v is no sum", w, sum)
		}
	}
	if goodWorlds()[6].Seats == nil || impl.SumWorld(goodWorlds()[6]) != impl.SumWorld(impl.NewWorld().World) {
		t.Error("an empty list is not nil")
	}
}

func TestOtherBytesOfOtherWorlds(t *testing.T) {
	worlds := packedWorlds(300)
	for i, w := range worlds {
		for _, other := range worlds[:i] {
			if same := bytes.Equal(impl.PackWorld(w).Bytes, impl.PackWorld(other).Bytes); same != sameByHand(w, other) {
				t.Fatalf("the bytes of %+v and %+v", w, other)
			}
		}
	}
}

// framesByHand are what commands pack to, one behind the other.
func framesByHand(list []impl.Command) []byte {
	var data []byte
	for _, c := range list {
		data = append(data, packByHand(c)...)
	}
	return data
}

func TestSumsOfCommands(t *testing.T) {
	leave := impl.Command{Seq: 1, Kind: impl.DoLeave}
	move := impl.Command{Client: 1, Seq: 258, Kind: impl.DoMove, A: 1, B: 2, C: 3}
	for _, c := range []struct {
		list []impl.Command
		sum  int64
	}{
		{nil, 29},
		{[]impl.Command{}, 29},
		{[]impl.Command{leave}, 11007},
		{[]impl.Command{move}, 52646},
		{[]impl.Command{leave, move}, 27674},
		{[]impl.Command{move, leave}, 26318},
		{[]impl.Command{leave, leave}, 50656},
	} {
		wantInt(t, fmt.Sprintf("SumCommands(%+v)", c.list), impl.SumCommands(c.list), impl.OK, c.sum)
		if hand := sumByHand(framesByHand(c.list)); hand != c.sum {
			t.Errorf("by hand %+v: %d", c.list, hand)
		}
	}
}

func TestSumsOfManyLists(t *testing.T) {
	good := goodCommands()
	for size := range 21 {
		for first := 0; first+size <= len(good); first += 7 {
			list := slices.Clone(good[first : first+size])
			sum := impl.SumCommands(list)
			wantInt(t, fmt.Sprintf("SumCommands(%+v)", list), sum, impl.OK, sumByHand(framesByHand(list)))
			if again := impl.SumCommands(slices.Clone(list)); again != sum {
				t.Errorf("SumCommands(%+v): got %+v and %+v", list, sum, again)
			}
		}
	}
}

func TestHowManyCommandsHaveASum(t *testing.T) {
	good := goodCommands()
	wantInt(t, "20", impl.SumCommands(good[:20]), impl.OK, sumByHand(framesByHand(good[:20])))
	for _, size := range []int{21, 22, 40, len(good)} {
		wantInt(t, fmt.Sprint(size), impl.SumCommands(good[:size]), impl.ErrMany, 0)
	}
	wantInt(t, "a million", impl.SumCommands(make([]impl.Command, 1000000)), impl.ErrMany, 0)
	// How many there are is asked ahead of each one.
	form := impl.Command{Seq: 1, Kind: impl.DoLeave, A: 1}
	wantInt(t, "21 with a fault first", impl.SumCommands(append([]impl.Command{form}, good[:20]...)), impl.ErrMany, 0)
	wantInt(t, "21 with a fault last", impl.SumCommands(append(slices.Clone(good[:20]), form)), impl.ErrMany, 0)
	wantInt(t, "20 with a fault first", impl.SumCommands(append([]impl.Command{form}, good[:19]...)), impl.ErrForm, 0)
	wantInt(t, "20 with a fault last", impl.SumCommands(append(slices.Clone(good[:19]), form)), impl.ErrForm, 0)
}

func TestTheFirstFaultOfAList(t *testing.T) {
	good := impl.Command{Client: 2, Seq: 3, Kind: impl.DoOffer, A: 1}
	form := impl.Command{Seq: 1, Kind: impl.DoLeave, C: 1}
	head := impl.Command{Client: 6, Seq: 1, Kind: impl.DoLeave}
	param := impl.Command{Seq: 1, Kind: impl.DoOffer, A: 1000001}
	both := impl.Command{Client: -1, Seq: 1, Kind: impl.DoLeave, C: 1}
	formToo := impl.Command{Seq: 1, Kind: impl.DoOffer, A: -1, B: 1}
	for _, c := range []struct {
		list []impl.Command
		code int64
	}{
		{[]impl.Command{form}, impl.ErrForm},
		{[]impl.Command{head}, impl.ErrRange},
		{[]impl.Command{param}, impl.ErrRange},
		{[]impl.Command{{}}, impl.ErrRange},
		{[]impl.Command{both}, impl.ErrRange},
		{[]impl.Command{formToo}, impl.ErrForm},
		{[]impl.Command{good, form}, impl.ErrForm},
		{[]impl.Command{good, good, head, good}, impl.ErrRange},
		// Each command is asked all of its own ahead of the next one.
		{[]impl.Command{form, head}, impl.ErrForm},
		{[]impl.Command{head, form}, impl.ErrRange},
		{[]impl.Command{form, param}, impl.ErrForm},
		{[]impl.Command{param, form}, impl.ErrRange},
		{[]impl.Command{good, param, head, form}, impl.ErrRange},
		{[]impl.Command{good, formToo, head, param}, impl.ErrForm},
	} {
		wantInt(t, fmt.Sprintf("SumCommands(%+v)", c.list), impl.SumCommands(c.list), c.code, 0)
	}
}

func TestCommandsAtTheirEdgesInAList(t *testing.T) {
	good := impl.Command{Client: 2, Seq: 3, Kind: impl.DoOffer, A: 1}
	eachEdge(func(c impl.Command) {
		list := []impl.Command{good, c}
		want := impl.IntResult{Code: faultByHand(c)}
		if want.Code == impl.OK {
			want.Value = sumByHand(framesByHand(list))
		}
		if got := impl.SumCommands(list); got != want {
			t.Fatalf("SumCommands(%+v): got %+v, want %+v", list, got, want)
		}
	})
}

func sumAnswers(w impl.World) []any {
	data := worldBytes(w)
	return []any{impl.PackWorld(w), impl.SumWorld(w), impl.ReadWorld(data), impl.ReadWorld(data[1:]), impl.SumCommands(goodSayings()), impl.SumCommands(manySayings())}
}

func TestAnswersOfSumsHangOnArgumentsAlone(t *testing.T) {
	checkArgumentsAlone(t, append(append(packedWorlds(100), faultyWorlds()...), otherWorlds()...), sumAnswers)
}

func TestBytesAndListsAreNotChanged(t *testing.T) {
	for _, w := range append(packedWorlds(50), faultyWorlds()...) {
		for _, size := range []int{0, 1, 4, 11} {
			whole := append(worldBytes(w), 1, 2, 3, 4, 5, 6, 7, 8, 9, 10, 11)
			kept := bytes.Clone(whole)
			impl.ReadWorld(whole[:len(whole)-size])
			if !bytes.Equal(whole, kept) {
				t.Fatalf("ReadWorld changed the bytes of %+v", w)
			}
		}
	}
	list := manySayings()
	kept := slices.Clone(list)
	for size := range len(list) + 1 {
		impl.SumCommands(list[:size])
		if !slices.Equal(list, kept) {
			t.Fatalf("SumCommands changed %+v", kept)
		}
	}
}

func TestPackedWorldsAreNewMemory(t *testing.T) {
	for _, w := range packedWorlds(50) {
		mine := copyOfWorld(w)
		first, second := impl.PackWorld(mine), impl.PackWorld(mine)
		behind := first.Bytes[:cap(first.Bytes)]
		for i := range behind {
			behind[i] = 99
		}
		spoilWorld(mine)
		wantBytes(t, fmt.Sprintf("PackWorld(%+v) that was there already", w), second, impl.OK, worldBytes(w))
		wantBytes(t, fmt.Sprintf("PackWorld(%+v) again", w), impl.PackWorld(w), impl.OK, worldBytes(w))
	}
}

func TestReadWorldsAreNewMemory(t *testing.T) {
	for _, w := range packedWorlds(50) {
		data := worldBytes(w)
		first, second := impl.ReadWorld(data), impl.ReadWorld(data)
		kept := copyOfWorld(second.World)
		spoilWorld(first.World)
		if !bytes.Equal(data, worldBytes(w)) || !sameByHand(fullOf(second.World), fullOf(kept)) {
			t.Fatalf("an answer shares memory: %+v", w)
		}
		for i := range data {
			data[i] = 99
		}
		if !sameByHand(fullOf(second.World), fullOf(kept)) {
			t.Fatalf("an answer shares memory with its argument: %+v", w)
		}
		checkListsApart(t, second.World)
	}
}

func FuzzReadWorld(f *testing.F) {
	for _, w := range packedWorlds(10) {
		f.Add(worldBytes(w))
	}
	f.Fuzz(func(t *testing.T, data []byte) {
		checkRead(t, data)
	})
}
