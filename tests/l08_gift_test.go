package tests

import (
	"fmt"
	"math"
	"reflect"
	"slices"
	"testing"

	"loop.example/g00646/impl"
)

func leaveSideByHand(w impl.World, faction int64) impl.WorldResult {
	if code := worldFaultByHand(w); code != impl.OK {
		return impl.WorldResult{Code: code}
	}
	if !within(faction, 0, 3) {
		return impl.WorldResult{Code: impl.ErrRange}
	}
	if w.Factions[faction].Gone {
		return impl.WorldResult{Code: impl.ErrState}
	}
	if w.Spent+w.Factions[faction].Purse > 100000000 {
		return impl.WorldResult{Code: impl.ErrFull}
	}
	now := copyOfWorld(w)
	heirs := alliesByHand(w, faction).List
	now.Factions[faction] = impl.Faction{Gone: true}
	for _, heir := range heirs {
		now.Factions[heir].Allies -= []int64{1, 2, 4, 8}[faction]
	}
	shares := make([]int64, len(heirs))
	for i := range w.Factions[faction].Purse {
		if len(heirs) > 0 {
			shares[i%int64(len(heirs))]++
		} else {
			now.Spent++
		}
	}
	for i, heir := range heirs {
		taken := min(shares[i], 1000000-w.Factions[heir].Purse)
		now.Factions[heir].Purse += taken
		now.Spent += shares[i] - taken
	}
	now.Seats, now.Offers = nil, nil
	for _, s := range w.Seats {
		if s.Faction != faction {
			now.Seats = append(now.Seats, s)
		}
	}
	for _, o := range w.Offers {
		if o.From != faction && o.To != faction {
			now.Offers = append(now.Offers, o)
		}
	}
	now.Board.Units = unitsLeftByHand(w.Board.Units, faction, heirs)
	return impl.WorldResult{World: now}
}

func unitsLeftByHand(units []impl.Unit, faction int64, heirs []int64) []impl.Unit {
	var list []impl.Unit
	next := 0
	for _, u := range units {
		if u.Owner == faction {
			u = impl.Unit{Id: u.Id, Owner: impl.Nobody, X: u.X, Y: u.Y, Life: u.Life, Carry: u.Carry}
			if len(heirs) > 0 {
				u.Owner = heirs[next]
				next = (next + 1) % len(heirs)
			}
		}
		list = append(list, u)
	}
	return list
}

func tributeByHand(w impl.World, from int64, to int64, n int64) impl.WorldResult {
	code := pairFaultByHand(w, from, to)
	if code == impl.OK && !within(n, 1, 1000000) {
		code = impl.ErrRange
	}
	if code == impl.OK && w.Factions[from].Purse < n {
		code = impl.ErrPoor
	}
	if code == impl.OK && w.Factions[to].Purse > 1000000-n {
		code = impl.ErrFull
	}
	if code != impl.OK {
		return impl.WorldResult{Code: code}
	}
	now := copyOfWorld(w)
	now.Factions[from].Purse -= n
	now.Factions[to].Purse += n
	return impl.WorldResult{World: now}
}

func giftByHand(w impl.World, from int64, id int64, to int64) impl.WorldResult {
	if code := pairFaultByHand(w, from, to); code != impl.OK {
		return impl.WorldResult{Code: code}
	}
	for i, u := range w.Board.Units {
		if u.Id != id {
			continue
		}
		if u.Owner != from {
			return impl.WorldResult{Code: impl.ErrRight}
		}
		now := copyOfWorld(w)
		now.Board.Units[i] = impl.Unit{Id: u.Id, Owner: to, X: u.X, Y: u.Y, Life: u.Life, Carry: u.Carry}
		return impl.WorldResult{World: now}
	}
	return impl.WorldResult{Code: impl.ErrNone}
}

func leaveSeatByHand(w impl.World, client int64) impl.WorldResult {
	if code := worldFaultByHand(w); code != impl.OK {
		return impl.WorldResult{Code: code}
	}
	perSide, side := make([]int, 4), int64(-1)
	now := copyOfWorld(w)
	now.Seats = nil
	for _, s := range w.Seats {
		perSide[s.Faction]++
		if s.Client == client {
			side = s.Faction
		} else {
			now.Seats = append(now.Seats, s)
		}
	}
	if side == -1 {
		return impl.WorldResult{Code: impl.ErrNone}
	}
	if perSide[side] == 1 {
		return leaveSideByHand(w, side)
	}
	return impl.WorldResult{World: now}
}

func pursesByHand(w impl.World) impl.IntResult {
	if code := worldFaultByHand(w); code != impl.OK {
		return impl.IntResult{Code: code}
	}
	return impl.IntResult{Value: w.Factions[0].Purse + w.Factions[1].Purse + w.Factions[2].Purse + w.Factions[3].Purse}
}

// giftCall is a call of one of the functions that turn worlds here, and how it is worked out by hand.
type giftCall struct {
	name   string
	call   func(w impl.World) impl.WorldResult
	byHand func(w impl.World) impl.WorldResult
}

func tributeCall(from int64, to int64, n int64) giftCall {
	return giftCall{
		fmt.Sprintf("PayTribute(w, %d, %d, %d)", from, to, n),
		func(w impl.World) impl.WorldResult { return impl.PayTribute(w, from, to, n) },
		func(w impl.World) impl.WorldResult { return tributeByHand(w, from, to, n) },
	}
}

func unitCall(from int64, id int64, to int64) giftCall {
	return giftCall{
		fmt.Sprintf("GiveUnit(w, %d, %d, %d)", from, id, to),
		func(w impl.World) impl.WorldResult { return impl.GiveUnit(w, from, id, to) },
		func(w impl.World) impl.WorldResult { return giftByHand(w, from, id, to) },
	}
}

func sideCall(faction int64) giftCall {
	return giftCall{
		fmt.Sprintf("LeaveSide(w, %d)", faction),
		func(w impl.World) impl.WorldResult { return impl.LeaveSide(w, faction) },
		func(w impl.World) impl.WorldResult { return leaveSideByHand(w, faction) },
	}
}

func seatCall(client int64) giftCall {
	return giftCall{
		fmt.Sprintf("LeaveSeat(w, %d)", client),
		func(w impl.World) impl.WorldResult { return impl.LeaveSeat(w, client) },
		func(w impl.World) impl.WorldResult { return leaveSeatByHand(w, client) },
	}
}

// giftCalls are calls with all factions and clients there are and some that there are not.
func giftCalls(amounts []int64, ids []int64) []giftCall {
	var calls []giftCall
	for a := int64(-1); a <= 4; a++ {
		calls = append(calls, sideCall(a))
		for b := int64(-1); b <= 4; b++ {
			for _, n := range amounts {
				calls = append(calls, tributeCall(a, b, n))
			}
			for _, id := range ids {
				calls = append(calls, unitCall(a, id, b))
			}
		}
	}
	for client := int64(-1); client <= 6; client++ {
		calls = append(calls, seatCall(client))
	}
	for _, end := range []int64{math.MinInt64, math.MaxInt64} {
		calls = append(calls, sideCall(end), seatCall(end), tributeCall(end, 1, 1), tributeCall(0, end, 1), tributeCall(end, end, end), unitCall(end, 4, 0), unitCall(1, 4, end), unitCall(end, end, end))
	}
	return calls
}

func wantPurses(t *testing.T, call string, w impl.World, purses ...int64) {
	t.Helper()
	for i, purse := range purses {
		if w.Factions[i].Purse != purse {
			t.Errorf("%s: the purse of %d is %d, want %d", call, i, w.Factions[i].Purse, purse)
		}
	}
	wantInt(t, call+": all four", impl.PursesOf(w), impl.OK, totalOf(purses))
}

func wantOwners(t *testing.T, call string, w impl.World, owners ...int64) {
	t.Helper()
	var got []int64
	for _, u := range w.Board.Units {
		got = append(got, u.Owner)
	}
	if !slices.Equal(got, owners) {
		t.Errorf("%s: owners are %v, want %v", call, got, owners)
	}
}

func TestASideThatLeavesNothing(t *testing.T) {
	for side := range int64(4) {
		want := impl.NewWorld()
		want.World.Factions[side].Gone = true
		got := impl.LeaveSide(impl.NewWorld().World, side)
		wantWorld(t, fmt.Sprint("side ", side), got, want)
		wantNoWorld(t, "again", impl.LeaveSide(got.World, side), impl.ErrState)
	}
}

func TestASideThatLeavesWithoutHeirs(t *testing.T) {
	want := midWorld()
	want.Spent = 300345
	want.Factions[2] = impl.Faction{Gone: true}
	want.Seats = []impl.Seat{want.Seats[0], want.Seats[2]}
	want.Offers = want.Offers[2:]
	want.Board.Units[2] = impl.Unit{Id: 9, Owner: impl.Nobody, Life: 8, Carry: 20}
	wantWorld(t, "side 2", impl.LeaveSide(midWorld(), 2), impl.WorldResult{World: want})
}

// threeHeirs has a side 1 with units of every job and three allies, of whom 2 can take 4 more and 3 nothing.
func threeHeirs() impl.World {
	return impl.World{
		Spent: 100,
		Board: impl.Board{Units: []impl.Unit{
			{Id: 2, Owner: 1, X: 1, Y: 2, Life: 3, Carry: 4, Job: impl.DoMove, ToX: 5, ToY: 6},
			{Id: 3, Owner: 0, Life: 1, Job: impl.DoMove, ToX: 1},
			{Id: 5, Owner: 1, Life: 1, Job: impl.DoHarvest, Prey: 2},
			{Id: 6, Owner: 1, Life: 1, Carry: 20, Job: impl.DoAttack, Prey: 3},
			{Id: 7, Owner: impl.Nobody, Life: 1},
			{Id: 8, Owner: 1, Life: 1},
			{Id: 99, Owner: 1, Life: 50},
		}},
		Factions: []impl.Faction{{Purse: 10, Allies: 6}, {Purse: 20, Allies: 13}, {Purse: 999996, Allies: 3}, {Purse: 1000000, Allies: 2}},
		Seats:    seatsOf(6),
		Offers:   []impl.Offer{{From: 3, To: 0}, {From: 0, To: 3}, {From: 2, To: 3}},
	}
}

func TestASideThatLeavesToThreeHeirs(t *testing.T) {
	want := threeHeirs()
	// The shares are 7, 7 and 6: 3 of the second one and all of the third one find no room.
	want.Spent = 109
	want.Factions = []impl.Faction{{Purse: 17, Allies: 4}, {Gone: true}, {Purse: 1000000, Allies: 1}, {Purse: 1000000}}
	want.Seats = slices.Concat(want.Seats[:1], want.Seats[2:5])
	want.Board.Units = []impl.Unit{
		{Id: 2, Owner: 0, X: 1, Y: 2, Life: 3, Carry: 4},
		{Id: 3, Owner: 0, Life: 1, Job: impl.DoMove, ToX: 1},
		{Id: 5, Owner: 2, Life: 1},
		{Id: 6, Owner: 3, Life: 1, Carry: 20},
		{Id: 7, Owner: impl.Nobody, Life: 1},
		{Id: 8, Owner: 0, Life: 1},
		{Id: 99, Owner: 2, Life: 50},
	}
	wantWorld(t, "side 1", impl.LeaveSide(threeHeirs(), 1), impl.WorldResult{World: want})
}

func TestHowMuchMayBeSpentByWhoLeaves(t *testing.T) {
	for _, allies := range []func(w *impl.World){alliesAre(0, 0, 0, 0), alliesAre(2, 1, 0, 0)} {
		base := turned(impl.NewWorld().World, allies)
		base.Factions[0].Purse = 70
		for _, spent := range []int64{99999930, 99999931, 100000000} {
			base.Spent = spent
			got, want := impl.LeaveSide(base, 0), leaveSideByHand(base, 0)
			wantWorld(t, fmt.Sprint("spent ", spent), got, want)
			if (got.Code == impl.ErrFull) != (spent > 99999930) {
				t.Error("spent", spent, got)
			}
		}
	}
}

func TestLeaveSideAsksInOrder(t *testing.T) {
	gone := turned(goneWorld(), func(w *impl.World) { w.Spent = 100000000 })
	wantNoWorld(t, "who is Gone, ahead of what is full", impl.LeaveSide(gone, 3), impl.ErrState)
	wantNoWorld(t, "what is full", impl.LeaveSide(gone, 2), impl.ErrFull)
	for _, side := range append(outside(0, 3), impl.Nobody) {
		wantNoWorld(t, "a range", impl.LeaveSide(gone, side), impl.ErrRange)
	}
	for _, w := range faultyWorlds() {
		for side := int64(-1); side <= 4; side++ {
			wantNoWorld(t, "a fault", impl.LeaveSide(w, side), worldFaultByHand(w))
		}
	}
}

func TestSidesThatLeaveManyWorlds(t *testing.T) {
	codes := map[int64]int{}
	for i, w := range append(append(mendedWorlds(300), faultyWorlds()...), someWorlds(100)...) {
		was := copyOfWorld(w)
		for side := int64(-1); side <= 4; side++ {
			got, want := impl.LeaveSide(w, side), leaveSideByHand(w, side)
			codes[want.Code]++
			call := fmt.Sprintf("LeaveSide(world %d, %d)", i, side)
			if want.Code != impl.OK {
				wantNoWorld(t, call, got, want.Code)
				continue
			}
			wantWorld(t, call, got, want)
			if impl.WorldFault(got.World) != impl.OK || impl.TotalOf(got.World) != impl.TotalOf(w) {
				t.Errorf("%s: a fault, or another total", call)
			}
			if again := impl.LeaveSide(copyOfWorld(w), side); !reflect.DeepEqual(again, got) {
				t.Errorf("%s: another answer", call)
			}
			checkNewWorld(t, w, func(w impl.World) impl.WorldResult { return impl.LeaveSide(w, side) })
		}
		if !sameByHand(fullOf(w), fullOf(was)) {
			t.Errorf("changed: %+v", was)
		}
		if t.Failed() {
			t.Fatalf("world %d is %+v", i, was)
		}
	}
	if codes[impl.OK] < 500 || codes[impl.ErrState] < 50 || codes[impl.ErrFull] < 50 {
		t.Error("too few of one kind", codes)
	}
}

func TestATributeAndOneThatComesBack(t *testing.T) {
	paid := impl.PayTribute(midWorld(), 1, 3, 19999)
	wantWorld(t, "paid", paid, impl.WorldResult{World: turned(midWorld(), func(w *impl.World) {
		w.Factions[1].Purse, w.Factions[3].Purse = 1, 20006
	})})
	wantPurses(t, "ahead", midWorld(), 1000, 20000, 300000, 7)
	wantPurses(t, "behind", paid.World, 1000, 1, 300000, 20006)
	for _, w := range goodWorlds() {
		for from := range int64(4) {
			for to := range int64(4) {
				for _, n := range []int64{1, 7, 1000, 1000000} {
					checkTributeAndBack(t, w, from, to, n)
				}
			}
		}
	}
}

// checkTributeAndBack asks of a tribute that tells no code that it turns two purses alone, and that one back makes all as it was.
func checkTributeAndBack(t *testing.T, w impl.World, from int64, to int64, n int64) {
	t.Helper()
	paid := impl.PayTribute(w, from, to, n)
	if paid.Code != impl.OK {
		return
	}
	call := fmt.Sprintf("a tribute of %d from %d to %d", n, from, to)
	was, now := w.Factions, paid.World.Factions
	if was[from].Purse-n != now[from].Purse || was[from].Purse+was[to].Purse != now[from].Purse+now[to].Purse {
		t.Errorf("%s: %+v", call, now)
	}
	if impl.PursesOf(w) != impl.PursesOf(paid.World) || impl.TotalOf(w) != impl.TotalOf(paid.World) {
		t.Errorf("%s: another sum of all", call)
	}
	wantWorld(t, call+" and back", impl.PayTribute(paid.World, to, from, n), impl.WorldResult{World: w})
}

func TestTributesAtTheirEdges(t *testing.T) {
	const most = impl.MaxPurse
	for _, c := range []struct{ from, to, n, code int64 }{
		{1, 0, 1, impl.OK},
		{most, 0, most, impl.OK},
		{most, 0, most - 1, impl.OK},
		{most, 0, 1, impl.OK},
		{8, 3, 8, impl.OK},
		{8, 3, 7, impl.OK},
		{8, most - 8, 8, impl.OK},
		{most, most - 1, 1, impl.OK},
		{most, 1, most - 1, impl.OK},
		{0, 0, 1, impl.ErrPoor},
		{8, 3, 9, impl.ErrPoor},
		{most - 1, 0, most, impl.ErrPoor},
		{0, 0, most, impl.ErrPoor},
		{1, most, 1, impl.ErrFull},
		{8, most - 7, 8, impl.ErrFull},
		{most, 1, most, impl.ErrFull},
		{most, most, most, impl.ErrFull},
		{8, most, 9, impl.ErrPoor},
		{0, most, 1, impl.ErrPoor},
		{8, 3, 0, impl.ErrRange},
		{8, 3, -1, impl.ErrRange},
		{most, 0, most + 1, impl.ErrRange},
		{0, most, 0, impl.ErrRange},
		{0, most, -1, impl.ErrRange},
		{0, most, most + 1, impl.ErrRange},
		{most, most, -most, impl.ErrRange},
		{most, most, math.MinInt64, impl.ErrRange},
		{most, most, math.MinInt64 + 1, impl.ErrRange},
		{most, most, math.MaxInt64, impl.ErrRange},
		{most, most, math.MaxInt64 - 999999, impl.ErrRange},
		{most, 0, 1<<32 + 1, impl.ErrRange},
	} {
		for from := range int64(4) {
			to := 3 - from
			w := turned(midWorld(), func(w *impl.World) { w.Factions[from].Purse, w.Factions[to].Purse = c.from, c.to })
			call := fmt.Sprintf("%+v from %d to %d", c, from, to)
			got := impl.PayTribute(w, from, to, c.n)
			if c.code != impl.OK {
				wantNoWorld(t, call, got, c.code)
				continue
			}
			wantWorld(t, call, got, impl.WorldResult{World: turned(w, func(w *impl.World) {
				w.Factions[from].Purse, w.Factions[to].Purse = c.from-c.n, c.to+c.n
			})})
			checkTributeAndBack(t, w, from, to, c.n)
		}
	}
}

func TestGiftsOfUnitsOfEveryJob(t *testing.T) {
	for _, given := range goodUnits() {
		if given.Owner == impl.Nobody {
			continue
		}
		w := turned(impl.NewWorld().World, func(w *impl.World) {
			w.Board.Fields = goodFields()
			for _, id := range []int64{given.Id - 1, given.Id, given.Id + 1} {
				if id == given.Id {
					w.Board.Units = append(w.Board.Units, given)
				} else if within(id, 1, 99) {
					w.Board.Units = append(w.Board.Units, impl.Unit{Id: id, Owner: given.Owner, Life: 2, Carry: 3, Job: impl.DoMove, ToX: 4, ToY: 5})
				}
			}
		})
		for to := range int64(4) {
			if to == given.Owner {
				continue
			}
			call := fmt.Sprintf("%+v to %d", given, to)
			got := impl.GiveUnit(w, given.Owner, given.Id, to)
			want := given
			want.Owner, want.Job, want.ToX, want.ToY, want.Prey = to, 0, 0, 0, 0
			wantUnit(t, call, impl.UnitOf(got.World.Board, given.Id), impl.OK, want)
			wantWorld(t, call, got, impl.WorldResult{World: turned(w, func(w *impl.World) {
				w.Board.Units[slices.Index(w.Board.Units, given)] = want
			})})
			wantInts(t, call, impl.OwnedBy(got.World.Board, to), impl.OK, given.Id)
			wantNoWorld(t, call+" again", impl.GiveUnit(got.World, given.Owner, given.Id, to), impl.ErrRight)
			back := impl.GiveUnit(got.World, to, given.Id, given.Owner)
			want.Owner = given.Owner
			wantUnit(t, call+" and back", impl.UnitOf(back.World.Board, given.Id), impl.OK, want)
			if impl.TotalOf(w) != impl.TotalOf(got.World) || impl.WorldFault(got.World) != impl.OK {
				t.Errorf("%s: another total, or a fault", call)
			}
		}
	}
}

func TestGiftsInAFullWorld(t *testing.T) {
	full := goodWorlds()[3]
	for i, u := range full.Board.Units {
		for to := range int64(4) {
			got := impl.GiveUnit(full, u.Owner, u.Id, to)
			switch {
			case u.Owner == impl.Nobody:
				wantNoWorld(t, "from Nobody", got, impl.ErrRange)
			case u.Owner == to:
				wantNoWorld(t, "to oneself", got, impl.ErrForm)
			default:
				wantWorld(t, fmt.Sprintf("%+v to %d", u, to), got, impl.WorldResult{World: turned(full, func(w *impl.World) { w.Board.Units[i].Owner = to })})
			}
		}
		wantNoWorld(t, "to Nobody", impl.GiveUnit(full, u.Owner, u.Id, impl.Nobody), impl.ErrRange)
	}
}

func TestUnitsThatAreNotTheirsToGive(t *testing.T) {
	w := threeHeirs()
	for _, id := range append(outside(1, 99), 1, 4, 9, 98, -2, 2+1<<32, 2+1<<8) {
		wantNoWorld(t, fmt.Sprint("no unit ", id), impl.GiveUnit(w, 1, id, 0), impl.ErrNone)
	}
	wantNoWorld(t, "the other one's", impl.GiveUnit(w, 1, 3, 0), impl.ErrRight)
	wantNoWorld(t, "a third one's", impl.GiveUnit(w, 2, 3, 3), impl.ErrRight)
	wantNoWorld(t, "Nobody's", impl.GiveUnit(w, 1, 7, 0), impl.ErrRight)
	wantNoWorld(t, "an ally's", impl.GiveUnit(w, 0, 2, 2), impl.ErrRight)
	bare := impl.NewWorld().World
	for _, units := range [][]impl.Unit{nil, {}} {
		bare.Board.Units = units
		wantNoWorld(t, "no units", impl.GiveUnit(bare, 0, 1, 3), impl.ErrNone)
	}
}

// leftBy is a world in which a side leaves a purse and n units between those of others to its allies.
func leftBy(side int64, heirs []int64, purse int64, n int) impl.World {
	w := impl.NewWorld().World
	w.Factions[side].Purse = purse
	for _, heir := range heirs {
		w.Factions[side].Allies |= 1 << heir
		w.Factions[heir].Allies |= 1 << side
	}
	for i := range int64(n) {
		w.Board.Units = append(w.Board.Units, impl.Unit{Id: 3*i + 2, Owner: side, X: i, Life: 9, Carry: i, Job: impl.DoMove, ToX: 7})
	}
	if n < 7 {
		w.Board.Units = slices.Insert(w.Board.Units, 0, impl.Unit{Id: 1, Owner: impl.Nobody, Life: 1, Job: impl.DoMove, ToX: 3})
		w.Board.Units = append(w.Board.Units, impl.Unit{Id: 50, Owner: (side + 1) % 4, Life: 1, Job: impl.DoMove, ToY: 3})
	}
	return w
}

// heirsBeside are all lists of heirs that a side may have.
func heirsBeside(side int64) [][]int64 {
	lists := [][]int64{nil}
	for other := range int64(4) {
		if other == side {
			continue
		}
		for _, list := range slices.Clone(lists) {
			lists = append(lists, append(slices.Clone(list), other))
		}
	}
	return lists
}

func TestWhatIsLeftToAllHeirsThereMayBe(t *testing.T) {
	for side := range int64(4) {
		for _, heirs := range heirsBeside(side) {
			for _, purse := range []int64{0, 1, 2, 3, 4, 5, 7, 999999, 1000000} {
				for n := range 9 {
					w := leftBy(side, heirs, purse, n)
					call := fmt.Sprintf("side %d to %v: %d and %d units", side, heirs, purse, n)
					wantInts(t, call, impl.HeirsOf(w, side), impl.OK, heirs...)
					checkLeft(t, call, w, impl.LeaveSide(w, side), side, heirs)
				}
			}
		}
	}
}

// checkLeft asks that heirs with all the room there is got the ShareOf the purse, and the units in turn.
func checkLeft(t *testing.T, call string, was impl.World, left impl.WorldResult, side int64, heirs []int64) {
	t.Helper()
	if left.Code != impl.OK || !left.World.Factions[side].Gone || impl.TotalOf(left.World) != impl.TotalOf(was) {
		t.Fatalf("%s: %+v", call, left)
	}
	purses := make([]int64, 4)
	for i, share := range impl.ShareOf(was.Factions[side].Purse, int64(len(heirs))).List {
		purses[heirs[i]] = share
	}
	wantPurses(t, call, left.World, purses...)
	if spent := was.Factions[side].Purse - totalOf(purses); left.World.Spent != spent || len(heirs) > 0 && spent != 0 {
		t.Errorf("%s: Spent is %d, want %d", call, left.World.Spent, spent)
	}
	next := 0
	for i, u := range was.Board.Units {
		if u.Owner == side {
			u.Job, u.ToX, u.Owner = 0, 0, impl.Nobody
			if len(heirs) > 0 {
				u.Owner = heirs[next%len(heirs)]
			}
			next++
		}
		if left.World.Board.Units[i] != u {
			t.Errorf("%s: got %+v, want %+v", call, left.World.Board.Units[i], u)
		}
	}
	wantInts(t, call, impl.OwnedBy(left.World.Board, side), impl.OK)
	wantInts(t, call, impl.HeirsOf(left.World, side), impl.OK)
}

func TestUnitsInTurnAndRoundAgain(t *testing.T) {
	wantOwners(t, "to one", impl.LeaveSide(leftBy(0, []int64{3}, 0, 3), 0).World, 9, 3, 3, 3, 1)
	wantOwners(t, "to two", impl.LeaveSide(leftBy(3, []int64{0, 2}, 0, 5), 3).World, 9, 0, 2, 0, 2, 0, 0)
	wantOwners(t, "to three", impl.LeaveSide(leftBy(1, []int64{0, 2, 3}, 0, 8), 1).World, 0, 2, 3, 0, 2, 3, 0, 2)
	wantOwners(t, "fewer than heirs", impl.LeaveSide(leftBy(1, []int64{0, 2, 3}, 0, 2), 1).World, 9, 0, 2, 2)
	wantOwners(t, "as many as heirs", impl.LeaveSide(leftBy(1, []int64{0, 2, 3}, 0, 3), 1).World, 9, 0, 2, 3, 2)
	wantOwners(t, "none", impl.LeaveSide(leftBy(1, []int64{0, 2, 3}, 0, 0), 1).World, 9, 2)
	wantOwners(t, "to nobody", impl.LeaveSide(leftBy(2, nil, 0, 4), 2).World, 9, 9, 9, 9, 9, 3)
}

func TestHeirsWithoutRoom(t *testing.T) {
	const most = impl.MaxPurse
	for _, c := range []struct {
		name              string
		heirs             []int64
		purse             int64
		had, have         [3]int64
		spentAhead, spent int64
	}{
		{"no room at all", []int64{1}, 9, [3]int64{most, 0, 0}, [3]int64{most, 0, 0}, 5, 14},
		{"some room", []int64{1}, 9, [3]int64{most - 4, 0, 0}, [3]int64{most, 0, 0}, 5, 10},
		{"one too little", []int64{1}, 9, [3]int64{most - 8, 0, 0}, [3]int64{most, 0, 0}, 5, 6},
		{"just enough", []int64{1}, 9, [3]int64{most - 9, 0, 0}, [3]int64{most, 0, 0}, 5, 5},
		{"one more than enough", []int64{1}, 9, [3]int64{most - 10, 0, 0}, [3]int64{most - 1, 0, 0}, 5, 5},
		{"all to one who has nothing", []int64{1}, most, [3]int64{0, 0, 0}, [3]int64{most, 0, 0}, 0, 0},
		{"all to one who has one", []int64{1}, most, [3]int64{1, 0, 0}, [3]int64{most, 0, 0}, 0, 1},
		{"all to one who has all", []int64{1}, most, [3]int64{most, 0, 0}, [3]int64{most, 0, 0}, 0, most},
		{"what the first cannot take is not the second's", []int64{1, 2}, 9, [3]int64{most, 0, 0}, [3]int64{most, 4, 0}, 0, 5},
		{"what the second cannot take is not the first's", []int64{1, 3}, 9, [3]int64{0, 0, most}, [3]int64{5, 0, most}, 0, 4},
		{"just enough for the greater share", []int64{2, 3}, 9, [3]int64{0, most - 5, most - 4}, [3]int64{0, most, most}, 0, 0},
		{"each one short", []int64{1, 2, 3}, 11, [3]int64{most - 3, most - 3, most - 2}, [3]int64{most, most, most}, 7, 10},
		{"nobody has room", []int64{1, 2, 3}, 11, [3]int64{most, most, most}, [3]int64{most, most, most}, 7, 18},
		{"nothing is left", []int64{1, 2, 3}, 0, [3]int64{most, 4, most}, [3]int64{most, 4, most}, 7, 7},
		{"no heirs", nil, 11, [3]int64{1, 2, 3}, [3]int64{1, 2, 3}, 7, 18},
		{"no heirs and nothing is left", nil, 0, [3]int64{1, 2, 3}, [3]int64{1, 2, 3}, 7, 7},
	} {
		w := leftBy(0, c.heirs, c.purse, 2)
		w.Spent = c.spentAhead
		for i, purse := range c.had {
			w.Factions[i+1].Purse = purse
		}
		left := impl.LeaveSide(w, 0)
		wantPurses(t, c.name, left.World, 0, c.have[0], c.have[1], c.have[2])
		if left.Code != impl.OK || left.World.Spent != c.spent || impl.TotalOf(left.World) != impl.TotalOf(w) {
			t.Errorf("%s: %+v", c.name, left)
		}
	}
}

func TestOffersAndPactsOfWhoLeaves(t *testing.T) {
	w := turned(impl.NewWorld().World, func(w *impl.World) { w.Offers = sixOffers() })
	for side, want := range [][]impl.Offer{
		{{From: 2, To: 1}, {From: 1, To: 2}},
		{{From: 2, To: 0}, {From: 0, To: 2}},
		{{From: 0, To: 1}, {From: 1, To: 0}},
		sixOffers(),
	} {
		if left := impl.LeaveSide(w, int64(side)); left.Code != impl.OK || !slices.Equal(left.World.Offers, want) {
			t.Errorf("side %d: %+v", side, left)
		}
	}
	allied := goodWorlds()[4]
	wantAllies(t, "0 leaves", impl.LeaveSide(allied, 0).World, nil, []int64{2, 3}, []int64{1, 3}, []int64{1, 2})
	wantAllies(t, "3 leaves", impl.LeaveSide(allied, 3).World, []int64{1, 2}, []int64{0, 2}, []int64{0, 1}, nil)
}

func TestSeatsOfWhoLeaves(t *testing.T) {
	w := turned(impl.NewWorld().World, func(w *impl.World) { w.Seats = seatsOf(6) })
	for side, clients := range [][]int64{{1, 2, 3, 5}, {0, 2, 3, 4}, {0, 1, 3, 4, 5}, {0, 1, 2, 4, 5}} {
		left := impl.LeaveSide(w, int64(side))
		var want []impl.Seat
		for _, client := range clients {
			want = append(want, w.Seats[client])
		}
		if left.Code != impl.OK || !slices.Equal(left.World.Seats, want) {
			t.Errorf("side %d: %+v", side, left)
		}
	}
}

func TestASeatThatLeaves(t *testing.T) {
	w := midWorld()
	first := impl.LeaveSeat(w, 1)
	wantWorld(t, "one of two", first, impl.WorldResult{World: turned(w, func(w *impl.World) { w.Seats = w.Seats[1:] })})
	wantWorld(t, "the other one of two", impl.LeaveSeat(w, 4), impl.WorldResult{World: turned(w, func(w *impl.World) { w.Seats = w.Seats[:2] })})
	wantNoWorld(t, "twice", impl.LeaveSeat(first.World, 1), impl.ErrNone)

	last := impl.LeaveSeat(first.World, 4)
	wantWorld(t, "the last one of a side", last, impl.WorldResult{World: turned(w, func(w *impl.World) {
		w.Factions[0], w.Factions[1] = impl.Faction{Gone: true}, impl.Faction{Purse: 21000}
		w.Seats, w.Offers = w.Seats[1:2], w.Offers[2:]
	})})
	wantWorld(t, "as its side", last, impl.LeaveSide(first.World, 0))
	wantWorld(t, "the only one of a side", impl.LeaveSeat(w, 3), impl.LeaveSide(w, 2))
	for _, client := range []int64{0, 2, 5} {
		wantNoWorld(t, "without a seat", impl.LeaveSeat(w, client), impl.ErrNone)
	}
}

func TestSeatsThatLeaveOneBehindTheOther(t *testing.T) {
	w := turned(impl.NewWorld().World, func(w *impl.World) {
		w.Seats = seatsOf(6)
		for i := range w.Seats {
			w.Seats[i].Faction = 3
		}
	})
	for i, client := range []int64{3, 0, 5, 1, 4, 2} {
		left := impl.LeaveSeat(w, client)
		if left.Code != impl.OK || len(left.World.Seats) != 5-i || left.World.Factions[3].Gone != (i == 5) {
			t.Fatalf("client %d: %+v", client, left)
		}
		if impl.SeatOf(left.World, client).Code != impl.ErrNone {
			t.Errorf("client %d has a seat", client)
		}
		for other := range int64(6) {
			if other != client && impl.SeatOf(left.World, other) != impl.SeatOf(w, other) {
				t.Errorf("client %d leaves: the seat of %d turned", client, other)
			}
		}
		w = left.World
	}
	for _, seats := range [][]impl.Seat{nil, {}} {
		w.Seats = seats
		wantNoWorld(t, "no seats", impl.LeaveSeat(w, 0), impl.ErrNone)
	}
}

func TestASeatThatCannotLeaveItsSide(t *testing.T) {
	w := turned(midWorld(), func(w *impl.World) { w.Spent = 99700001 })
	wantNoWorld(t, "the last one of a side that is too rich", impl.LeaveSeat(w, 3), impl.ErrFull)
	wantNoWorld(t, "that side", impl.LeaveSide(w, 2), impl.ErrFull)
	w.Spent--
	left := impl.LeaveSeat(w, 3)
	if left.Code != impl.OK || left.World.Spent != 100000000 {
		t.Error("just enough", left)
	}
	w.Spent = 100000000
	wantWorld(t, "one of two, nothing is Spent", impl.LeaveSeat(w, 1), impl.WorldResult{World: turned(w, func(w *impl.World) { w.Seats = w.Seats[1:] })})
	wantNoWorld(t, "who has no seat, ahead of what is full", impl.LeaveSeat(w, 2), impl.ErrNone)
}

func TestPursesOf(t *testing.T) {
	wantInt(t, "nothing", impl.PursesOf(impl.NewWorld().World), impl.OK, 0)
	wantInt(t, "all four", impl.PursesOf(midWorld()), impl.OK, 321007)
	wantInt(t, "of one who is Gone, too", impl.PursesOf(goneWorld()), impl.OK, 321008)
	wantInt(t, "the most", impl.PursesOf(goodWorlds()[3]), impl.OK, 4000000)
	for side := range int64(4) {
		w := turned(impl.NewWorld().World, func(w *impl.World) { w.Factions[side].Purse = 1000000 })
		wantInt(t, fmt.Sprint("of ", side, " alone"), impl.PursesOf(w), impl.OK, 1000000)
	}
	for _, w := range append(mendedWorlds(300), faultyWorlds()...) {
		want := pursesByHand(w)
		wantInt(t, fmt.Sprintf("PursesOf(%+v)", w), impl.PursesOf(w), want.Code, want.Value)
	}
}

func TestHeirsOf(t *testing.T) {
	wantInts(t, "one", impl.HeirsOf(midWorld(), 0), impl.OK, 1)
	wantInts(t, "none", impl.HeirsOf(midWorld(), 2), impl.OK)
	wantInts(t, "of one who is Gone", impl.HeirsOf(goneWorld(), 3), impl.OK)
	wantInts(t, "three", impl.HeirsOf(goodWorlds()[4], 2), impl.OK, 0, 1, 3)
	for _, w := range append(mendedWorlds(300), faultyWorlds()...) {
		for _, side := range append(outside(0, 3), 0, 1, 2, 3, impl.Nobody, 32, 64) {
			want := alliesByHand(w, side)
			wantInts(t, fmt.Sprintf("HeirsOf(%+v, %d)", w, side), impl.HeirsOf(w, side), want.Code, want.List...)
		}
	}
}

func TestTributesAndGiftsAskInOrder(t *testing.T) {
	gone := turned(goneWorld(), func(w *impl.World) {
		w.Board.Units = append(w.Board.Units, impl.Unit{Id: 20, Owner: 1, Life: 1})
		w.Factions[2].Purse = 1000000
	})
	// Each with all codes that stand behind: an n that is none, and a unit that there is not.
	for name, call := range map[string]func(w impl.World, a int64, b int64) impl.WorldResult{
		"PayTribute": func(w impl.World, a int64, b int64) impl.WorldResult { return impl.PayTribute(w, a, b, 0) },
		"GiveUnit":   func(w impl.World, a int64, b int64) impl.WorldResult { return impl.GiveUnit(w, a, 21, b) },
	} {
		for _, side := range append(outside(0, 3), impl.Nobody) {
			wantNoWorld(t, name+" a range", call(gone, side, 1), impl.ErrRange)
			wantNoWorld(t, name+" a range behind", call(gone, 1, side), impl.ErrRange)
			wantNoWorld(t, name+" a range ahead of like ones", call(gone, side, side), impl.ErrRange)
			wantNoWorld(t, name+" a range ahead of who is Gone", call(gone, side, 3), impl.ErrRange)
			wantNoWorld(t, name+" a range ahead of who is Gone", call(gone, 3, side), impl.ErrRange)
		}
		for side := range int64(4) {
			wantNoWorld(t, name+" like ones, Gone or not", call(gone, side, side), impl.ErrForm)
		}
		wantNoWorld(t, name+" who is Gone", call(gone, 3, 1), impl.ErrState)
		wantNoWorld(t, name+" who is Gone behind", call(gone, 1, 3), impl.ErrState)
		for _, w := range faultyWorlds() {
			for _, sides := range [][2]int64{{0, 1}, {1, 1}, {-1, 4}, {3, 1}} {
				wantNoWorld(t, name+" a fault", call(w, sides[0], sides[1]), worldFaultByHand(w))
			}
		}
	}
	wantNoWorld(t, "like ones ahead of who is poor", impl.PayTribute(gone, 1, 1, 1000000), impl.ErrForm)
	wantNoWorld(t, "who is Gone ahead of who is poor", impl.PayTribute(gone, 3, 1, 9), impl.ErrState)
	wantNoWorld(t, "an n that is none ahead of who is poor", impl.PayTribute(gone, 1, 2, 1000001), impl.ErrRange)
	wantNoWorld(t, "who is poor ahead of who is full", impl.PayTribute(gone, 1, 2, 20001), impl.ErrPoor)
	wantNoWorld(t, "who is full", impl.PayTribute(gone, 1, 2, 20000), impl.ErrFull)
	wantNoWorld(t, "like ones ahead of a right", impl.GiveUnit(gone, 0, 20, 0), impl.ErrForm)
	wantNoWorld(t, "who is Gone ahead of a right", impl.GiveUnit(gone, 3, 20, 0), impl.ErrState)
	wantNoWorld(t, "no unit", impl.GiveUnit(gone, 1, 21, 0), impl.ErrNone)
	wantNoWorld(t, "a right", impl.GiveUnit(gone, 0, 20, 1), impl.ErrRight)
	for _, w := range faultyWorlds() {
		for _, client := range []int64{math.MinInt64, -1, 0, 1, 3, 4, 6, math.MaxInt64} {
			wantNoWorld(t, "LeaveSeat a fault", impl.LeaveSeat(w, client), worldFaultByHand(w))
		}
	}
	for _, client := range append(outside(0, 5), 1+1<<32) {
		wantNoWorld(t, "no such client", impl.LeaveSeat(midWorld(), client), impl.ErrNone)
	}
}

func TestGiftsOfManyWorlds(t *testing.T) {
	amounts := []int64{math.MinInt64, -1, 0, 1, 2, 499, 500, 501, 999500, 999501, 1000000, 1000001, math.MaxInt64}
	ids := []int64{math.MinInt64, -1, 0, 1, 2, 5, 9, 10, 99, math.MaxInt64}
	calls := giftCalls(amounts, ids)
	codes := map[string]map[int64]int{}
	for i, w := range append(append(mendedWorlds(200), faultyWorlds()...), someWorlds(30)...) {
		was := copyOfWorld(w)
		for _, c := range calls {
			got, want := c.call(w), c.byHand(w)
			name := c.name[:9]
			if codes[name] == nil {
				codes[name] = map[int64]int{}
			}
			codes[name][want.Code]++
			call := fmt.Sprintf("world %d: %s", i, c.name)
			if want.Code != impl.OK {
				wantNoWorld(t, call, got, want.Code)
				continue
			}
			wantWorld(t, call, got, want)
			if impl.WorldFault(got.World) != impl.OK || impl.TotalOf(got.World) != impl.TotalOf(w) {
				t.Errorf("%s: a fault, or another total", call)
			}
		}
		if !sameByHand(fullOf(w), fullOf(was)) {
			t.Errorf("world %d was changed", i)
		}
		if t.Failed() {
			t.Fatalf("world %d is %+v", i, was)
		}
	}
	wantMany := map[string][]int64{
		"PayTribut": {impl.OK, impl.ErrForm, impl.ErrRange, impl.ErrState, impl.ErrPoor, impl.ErrFull},
		"GiveUnit(": {impl.OK, impl.ErrForm, impl.ErrRange, impl.ErrState, impl.ErrNone, impl.ErrRight},
		"LeaveSide": {impl.OK, impl.ErrRange, impl.ErrState, impl.ErrFull},
		"LeaveSeat": {impl.OK, impl.ErrNone, impl.ErrFull},
	}
	for name, list := range wantMany {
		for _, code := range list {
			if codes[name][code] < 30 {
				t.Errorf("%s: too few of code %d: %v", name, code, codes[name])
			}
		}
	}
}

// giftAnswers are those of all functions of what is given away, for one world.
func giftAnswers(w impl.World, calls []giftCall) []any {
	answers := []any{impl.PursesOf(w)}
	for side := int64(-1); side <= 4; side++ {
		answers = append(answers, impl.HeirsOf(w, side))
	}
	for _, c := range calls {
		answers = append(answers, c.call(w))
	}
	return answers
}

func TestAnswersOfGiftsHangOnArgumentsAlone(t *testing.T) {
	calls := giftCalls([]int64{0, 1, 500}, []int64{2, 5, 9})
	worlds := append(mendedWorlds(60), faultyWorlds()...)
	checkArgumentsAlone(t, worlds, func(w impl.World) []any { return giftAnswers(w, calls) })
}

func TestAnswersOfGiftsAreNewMemory(t *testing.T) {
	calls := giftCalls([]int64{1, 500}, []int64{1, 2, 4, 5, 9})
	worlds := append(append(mendedWorlds(60), threeHeirs()), faultyWorlds()...)
	for _, w := range worlds {
		for _, c := range calls {
			checkNewWorld(t, w, c.call)
		}
		for side := range int64(4) {
			checkNewNumbers(t, w, func(w impl.World) impl.IntsResult { return impl.HeirsOf(w, side) })
		}
	}
}
