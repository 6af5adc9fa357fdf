package tests

import (
	"fmt"
	"reflect"
	"slices"
	"testing"

	"loop.example/g00646/impl"
)

func leaveSideByHand(w impl.World, faction int64) impl.WorldResult {
	if code := worldFaultByHand(w); code != impl.OK {
		return impl.WorldResult{Code: code}
	}
	if !within(faction, 0, 3) {
		return impl.WorldResult{Code: impl.ErrRange}
	}
	if w.Factions[faction].Gone {
		return impl.WorldResult{Code: impl.ErrState}
	}
	if w.Spent+w.Factions[faction].Purse > 100000000 {
		return impl.WorldResult{Code: impl.ErrFull}
	}
	now := copyOfWorld(w)
	heirs := alliesByHand(w, faction).List
	now.Factions[faction] = impl.Faction{Gone: true}
	for _, heir := range heirs {
		now.Factions[heir].Allies -= []int64{1, 2, 4, 8}[faction]
	}
	shares := make([]int64, len(heirs))
	for i := range w.Factions[faction].Purse {
		if len(heirs) > 0 {
			shares[i%int64(len(heirs))]++
		} else {
			now.Spent++
		}
	}
	for i, heir := range heirs {
		taken := min(shares[i], 1000000-w.Factions[heir].Purse)
		now.Factions[heir].Purse += taken
		now.Spent += shares[i] - taken
	}
	now.Seats, now.Offers = nil, nil
	for _, s := range w.Seats {
		if s.Faction != faction {
			now.Seats = append(now.Seats, s)
		}
	}
	for _, o := range w.Offers {
		if o.From != faction && o.To != faction {
			now.Offers = append(now.Offers, o)
		}
	}
	now.Board.Units = unitsLeftByHand(w.Board.Units, faction, heirs)
	return impl.WorldResult{World: now}
}

func unitsLeftByHand(units []impl.Unit, faction int64, heirs []int64) []impl.Unit {
	var list []impl.Unit
	next := 0
	for _, u := range units {
		if u.Owner == faction {
			u = impl.Unit{Id: u.Id, Owner: impl.Nobody, X: u.X, Y: u.Y, Life: u.Life, Carry: u.Carry}
			if len(heirs) > 0 {
				u.Owner = heirs[next]
				next = (next + 1) % len(heirs)
			}
		}
		list = append(list, u)
	}
	return list
}

func TestASideThatLeavesNothing(t *testing.T) {
	for side := range int64(4) {
		want := impl.NewWorld()
		want.World.Factions[side].Gone = true
		got := impl.LeaveSide(impl.NewWorld().World, side)
		wantWorld(t, fmt.Sprint("side ", side), got, want)
		wantNoWorld(t, "again", impl.LeaveSide(got.World, side), impl.ErrState)
	}
}

func TestASideThatLeavesWithoutHeirs(t *testing.T) {
	want := midWorld()
	want.Spent = 300345
	want.Factions[2] = impl.Faction{Gone: true}
	want.Seats = []impl.Seat{want.Seats[0], want.Seats[2]}
	want.Offers = want.Offers[2:]
	want.Board.Units[2] = impl.Unit{Id: 9, Owner: impl.Nobody, Life: 8, Carry: 20}
	wantWorld(t, "side 2", impl.LeaveSide(midWorld(), 2), impl.WorldResult{World: want})
}

// threeHeirs has a side 1 with units of every job and three allies, of whom 2 can take 4 more and 3 nothing.
func threeHeirs() impl.World {
	return impl.World{
		Spent: 100,
		Board: impl.Board{Units: []impl.Unit{
			{Id: 2, Owner: 1, X: 1, Y: 2, Life: 3, Carry: 4, Job: impl.DoMove, ToX: 5, ToY: 6},
			{Id: 3, Owner: 0, Life: 1, Job: impl.DoMove, ToX: 1},
			{Id: 5, Owner: 1, Life: 1, Job: impl.DoHarvest, Prey: 2},
			{Id: 6, Owner: 1, Life: 1, Carry: 20, Job: impl.DoAttack, Prey: 3},
			{Id: 7, Owner: impl.Nobody, Life: 1},
			{Id: 8, Owner: 1, Life: 1},
			{Id: 99, Owner: 1, Life: 50},
		}},
		Factions: []impl.Faction{{Purse: 10, Allies: 6}, {Purse: 20, Allies: 13}, {Purse: 999996, Allies: 3}, {Purse: 1000000, Allies: 2}},
		Seats:    seatsOf(6),
		Offers:   []impl.Offer{{From: 3, To: 0}, {From: 0, To: 3}, {From: 2, To: 3}},
	}
}

func TestASideThatLeavesToThreeHeirs(t *testing.T) {
	want := threeHeirs()
	// The shares are 7, 7 and 6: 3 of the second one and all of the third one find no room.
	want.Spent = 109
	want.Factions = []impl.Faction{{Purse: 17, Allies: 4}, {Gone: true}, {Purse: 1000000, Allies: 1}, {Purse: 1000000}}
	want.Seats = slices.Concat(want.Seats[:1], want.Seats[2:5])
	want.Board.Units = []impl.Unit{
		{Id: 2, Owner: 0, X: 1, Y: 2, Life: 3, Carry: 4},
		{Id: 3, Owner: 0, Life: 1, Job: impl.DoMove, ToX: 1},
		{Id: 5, Owner: 2, Life: 1},
		{Id: 6, Owner: 3, Life: 1, Carry: 20},
		{Id: 7, Owner: impl.Nobody, Life: 1},
		{Id: 8, Owner: 0, Life: 1},
		{Id: 99, Owner: 2, Life: 50},
	}
	wantWorld(t, "side 1", impl.LeaveSide(threeHeirs(), 1), impl.WorldResult{World: want})
}

func TestHowMuchMayBeSpentByWhoLeaves(t *testing.T) {
	for _, allies := range []func(w *impl.World){alliesAre(0, 0, 0, 0), alliesAre(2, 1, 0, 0)} {
		base := turned(impl.NewWorld().World, allies)
		base.Factions[0].Purse = 70
		for _, spent := range []int64{99999930, 99999931, 100000000} {
			base.Spent = spent
			got, want := impl.LeaveSide(base, 0), leaveSideByHand(base, 0)
			wantWorld(t, fmt.Sprint("spent ", spent), got, want)
			if (got.Code == impl.ErrFull) != (spent > 99999930) {
				t.Error("spent", spent, got)
			}
		}
	}
}

func TestLeaveSideAsksInOrder(t *testing.T) {
	gone := turned(goneWorld(), func(w *impl.World) { w.Spent = 100000000 })
	wantNoWorld(t, "who is Gone, ahead of what is full", impl.LeaveSide(gone, 3), impl.ErrState)
	wantNoWorld(t, "what is full", impl.LeaveSide(gone, 2), impl.ErrFull)
	for _, side := range append(outside(0, 3), impl.Nobody) {
		wantNoWorld(t, "a range", impl.LeaveSide(gone, side), impl.ErrRange)
	}
	for _, w := range faultyWorlds() {
		for side := int64(-1); side <= 4; side++ {
			wantNoWorld(t, "a fault", impl.LeaveSide(w, side), worldFaultByHand(w))
		}
	}
}

func TestSidesThatLeaveManyWorlds(t *testing.T) {
	codes := map[int64]int{}
	for i, w := range append(append(mendedWorlds(300), faultyWorlds()...), someWorlds(100)...) {
		was := copyOfWorld(w)
		for side := int64(-1); side <= 4; side++ {
			got, want := impl.LeaveSide(w, side), leaveSideByHand(w, side)
			codes[want.Code]++
			call := fmt.Sprintf("LeaveSide(world %d, %d)", i, side)
			if want.Code != impl.OK {
				wantNoWorld(t, call, got, want.Code)
				continue
			}
			wantWorld(t, call, got, want)
			if impl.WorldFault(got.World) != impl.OK || impl.TotalOf(got.World) != impl.TotalOf(w) {
				t.Errorf("%s: a fault, or another total", call)
			}
			if again := impl.LeaveSide(copyOfWorld(w), side); !reflect.DeepEqual(again, got) {
				t.Errorf("%s: another answer", call)
			}
			checkNewWorld(t, w, func(w impl.World) impl.WorldResult { return impl.LeaveSide(w, side) })
		}
		if !sameByHand(fullOf(w), fullOf(was)) {
			t.Errorf("changed: %+v", was)
		}
		if t.Failed() {
			t.Fatalf("world %d is %+v", i, was)
		}
	}
	if codes[impl.OK] < 500 || codes[impl.ErrState] < 50 || codes[impl.ErrFull] < 50 {
		t.Error("too few of one kind", codes)
	}
}
