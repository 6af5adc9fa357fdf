package tests

import (
	"fmt"
	"math"
	"reflect"
	"slices"
	"testing"

	"loop.example/g00646/impl"
)

// bitByHand halves a number, rounded down, and asks whether what is left is odd.
func bitByHand(v int64, bit int64) bool {
	for range bit {
		if v < 0 && v%2 != 0 {
			v--
		}
		v /= 2
	}
	return v%2 != 0
}

func worldFaultByHand(w impl.World) int64 {
	if !within(w.Tick, 0, 9999) || !within(w.Spent, 0, 100000000) {
		return impl.ErrRange
	}
	if code := boardFaultByHand(w.Board); code != impl.OK {
		return code
	}
	if len(w.Factions) != 4 || len(w.Seats) > 6 || len(w.Offers) > 6 {
		return impl.ErrMany
	}
	for i := range int64(4) {
		if code := factionFaultByHand(w.Factions, i); code != impl.OK {
			return code
		}
	}
	for i := range w.Seats {
		if code := seatFaultByHand(w, i); code != impl.OK {
			return code
		}
	}
	for i := range w.Offers {
		if code := offerFaultByHand(w, i); code != impl.OK {
			return code
		}
	}
	for _, u := range w.Board.Units {
		if u.Owner != 9 && w.Factions[u.Owner].Gone {
			return impl.ErrForm
		}
	}
	return impl.OK
}

func factionFaultByHand(list []impl.Faction, i int64) int64 {
	if !within(list[i].Purse, 0, 1000000) || !within(list[i].Allies, 0, 15) {
		return impl.ErrRange
	}
	for j := range int64(4) {
		if !bitByHand(list[i].Allies, j) {
			continue
		}
		if i == j || list[i].Gone || !bitByHand(list[j].Allies, i) {
			return impl.ErrForm
		}
	}
	return impl.OK
}

func seatFaultByHand(w impl.World, i int) int64 {
	s := w.Seats[i]
	if !within(s.Client, 0, 5) || !within(s.Faction, 0, 3) || !within(s.Mask, 0, 2047) || !within(s.Last, 0, 999) {
		return impl.ErrRange
	}
	for _, ahead := range w.Seats[:i] {
		if ahead.Client >= s.Client {
			return impl.ErrForm
		}
	}
	if w.Factions[s.Faction].Gone {
		return impl.ErrForm
	}
	return impl.OK
}

func offerFaultByHand(w impl.World, i int) int64 {
	o := w.Offers[i]
	if !within(o.From, 0, 3) || !within(o.To, 0, 3) {
		return impl.ErrRange
	}
	from, to := w.Factions[o.From], w.Factions[o.To]
	if o.From == o.To || from.Gone || to.Gone || bitByHand(from.Allies, o.To) || bitByHand(to.Allies, o.From) {
		return impl.ErrForm
	}
	for _, ahead := range w.Offers[:i] {
		if ahead.From == o.From && ahead.To == o.To {
			return impl.ErrForm
		}
	}
	return impl.OK
}

func takeByHand(w impl.World, client int64, faction int64, mask int64) impl.WorldResult {
	if code := worldFaultByHand(w); code != impl.OK {
		return impl.WorldResult{Code: code}
	}
	if !within(client, 0, 5) || !within(faction, 0, 3) || !within(mask, 0, 2047) {
		return impl.WorldResult{Code: impl.ErrRange}
	}
	if w.Factions[faction].Gone {
		return impl.WorldResult{Code: impl.ErrState}
	}
	taken := impl.Seat{Client: client, Faction: faction, Mask: mask}
	var seats []impl.Seat
	for c := range int64(6) {
		for _, s := range w.Seats {
			if s.Client == c && c == client {
				taken.Last = s.Last
			} else if s.Client == c {
				seats = append(seats, s)
			}
		}
		if c == client {
			seats = append(seats, taken)
		}
	}
	now := copyOfWorld(w)
	now.Seats = seats
	return impl.WorldResult{World: now}
}

func totalByHand(w impl.World) impl.IntResult {
	if code := worldFaultByHand(w); code != impl.OK {
		return impl.IntResult{Code: code}
	}
	sum := togetherOf(w.Board) + w.Spent
	for _, f := range w.Factions {
		sum += f.Purse
	}
	return impl.IntResult{Value: sum}
}

// copyOfWorld has also what lies behind the ends of the lists, so that a change there is seen.
func copyOfWorld(w impl.World) impl.World {
	return impl.World{
		Tick:     w.Tick,
		Spent:    w.Spent,
		Board:    copyOf(w.Board),
		Factions: wholeCopy(w.Factions),
		Seats:    wholeCopy(w.Seats),
		Offers:   wholeCopy(w.Offers),
	}
}

// fullOf is a world whose lists tell all that lies behind their ends, too.
func fullOf(w impl.World) impl.World {
	w.Board.Units = w.Board.Units[:cap(w.Board.Units)]
	w.Board.Fields = w.Board.Fields[:cap(w.Board.Fields)]
	w.Factions, w.Seats, w.Offers = w.Factions[:cap(w.Factions)], w.Seats[:cap(w.Seats)], w.Offers[:cap(w.Offers)]
	return w
}

func sameByHand(a impl.World, b impl.World) bool {
	return a.Tick == b.Tick && a.Spent == b.Spent && sameLists(a.Board, b.Board) &&
		slices.Equal(a.Factions, b.Factions) && slices.Equal(a.Seats, b.Seats) && slices.Equal(a.Offers, b.Offers)
}

func wantWorld(t *testing.T, call string, got impl.WorldResult, want impl.WorldResult) {
	t.Helper()
	if got.Code != want.Code || !sameByHand(got.World, want.World) {
		t.Errorf("%s: got %+v, want %+v", call, got, want)
	}
}

// wantNoWorld asks for a code, and that all else is zero.
func wantNoWorld(t *testing.T, call string, got impl.WorldResult, code int64) {
	t.Helper()
	if !reflect.DeepEqual(got, impl.WorldResult{Code: code}) {
		t.Errorf("%s: got %+v, want code %d and nothing else", call, got, code)
	}
}

func wantSeat(t *testing.T, call string, got impl.SeatResult, want impl.SeatResult) {
	t.Helper()
	if got != want {
		t.Errorf("%s: got %+v, want %+v", call, got, want)
	}
}

// seatsOf has n seats, of all four factions in turn, with a Last of their own.
func seatsOf(n int) []impl.Seat {
	var seats []impl.Seat
	for i := range int64(n) {
		seats = append(seats, impl.Seat{Client: i, Faction: i % 4, Mask: 1 << i, Last: 100 + i})
	}
	return seats
}

// sixOffers are all between the factions 0 and 1, 0 and 2, 1 and 2.
func sixOffers() []impl.Offer {
	return []impl.Offer{{From: 0, To: 1}, {From: 1, To: 0}, {From: 2, To: 0}, {From: 0, To: 2}, {From: 2, To: 1}, {From: 1, To: 2}}
}

// midWorld has some of all: 0 and 1 are allies, nobody is Gone.
func midWorld() impl.World {
	return impl.World{
		Tick:  12,
		Spent: 345,
		Board: impl.Board{
			Units:  []impl.Unit{{Id: 4, Owner: 1, X: 2, Y: 3, Life: 5, Carry: 6}, {Id: 7, Owner: impl.Nobody, Life: 1, Carry: 1}, {Id: 9, Owner: 2, Life: 8, Carry: 20, Job: impl.DoMove, ToX: 3, ToY: 4}},
			Fields: []impl.Field{{X: 1, Y: 2, Left: 30}, {X: 3, Y: 4, Left: 500}},
		},
		Factions: []impl.Faction{{Purse: 1000, Allies: 2}, {Purse: 20000, Allies: 1}, {Purse: 300000}, {Purse: 7}},
		Seats:    []impl.Seat{{Client: 1, Faction: 0, Mask: 5, Last: 6}, {Client: 3, Faction: 2, Mask: 2047, Last: 999}, {Client: 4, Faction: 0}},
		Offers:   []impl.Offer{{From: 2, To: 0}, {From: 0, To: 2}, {From: 3, To: 1}},
	}
}

// goneWorld has a side that is Gone and has a purse still, and units of nobody alone.
func goneWorld() impl.World {
	w := midWorld()
	w.Factions[3] = impl.Faction{Purse: 8, Gone: true}
	w.Offers = w.Offers[:2:2]
	w.Board.Units = w.Board.Units[1:2:2]
	return w
}

func goodWorlds() []impl.World {
	full := midWorld()
	full.Tick, full.Spent, full.Board = 9999, 100000000, boardOf(8, 4)
	full.Factions = []impl.Faction{{Purse: 1000000}, {Purse: 1000000}, {Purse: 1000000, Allies: 8}, {Purse: 1000000, Allies: 4}}
	full.Seats, full.Offers = seatsOf(6), sixOffers()
	allied := impl.World{Factions: []impl.Faction{{Allies: 14}, {Allies: 13}, {Allies: 11}, {Allies: 7}}, Seats: seatsOf(5)}
	allGone := impl.World{Factions: []impl.Faction{{Gone: true}, {Gone: true, Purse: 3}, {Gone: true}, {Gone: true}}}
	empty := impl.World{Board: impl.Board{Units: []impl.Unit{}, Fields: []impl.Field{}}, Factions: make([]impl.Faction, 4), Seats: []impl.Seat{}, Offers: []impl.Offer{}}
	roomy := midWorld()
	roomy.Board.Units = append(make([]impl.Unit, 0, 9), roomy.Board.Units...)
	roomy.Board.Fields = append(make([]impl.Field, 0, 9), roomy.Board.Fields...)
	roomy.Factions = append(make([]impl.Faction, 0, 9), roomy.Factions...)
	roomy.Seats = append(make([]impl.Seat, 0, 9), roomy.Seats...)
	roomy.Offers = append(make([]impl.Offer, 0, 9), roomy.Offers...)
	return []impl.World{impl.NewWorld().World, midWorld(), goneWorld(), full, allied, allGone, empty, roomy}
}

// turned is a world in which one thing was turned.
func turned(w impl.World, turn func(w *impl.World)) impl.World {
	w = copyOfWorld(w)
	turn(&w)
	return w
}

// faultyWorlds have each a fault of their own.
func faultyWorlds() []impl.World {
	worlds := []impl.World{
		{},
		turned(midWorld(), func(w *impl.World) { w.Tick = -1 }),
		turned(midWorld(), func(w *impl.World) { w.Spent = 100000001 }),
		turned(midWorld(), func(w *impl.World) { w.Factions = w.Factions[:3] }),
		turned(midWorld(), func(w *impl.World) { w.Factions[1].Allies = 0 }),
		turned(midWorld(), func(w *impl.World) { w.Factions[3].Purse = 1000001 }),
		turned(midWorld(), func(w *impl.World) { w.Seats[2].Client = 3 }),
		turned(midWorld(), func(w *impl.World) { w.Seats[2].Mask = 2048 }),
		turned(midWorld(), func(w *impl.World) { w.Offers[1] = w.Offers[0] }),
		turned(midWorld(), func(w *impl.World) { w.Offers[2].To = 4 }),
		turned(goneWorld(), func(w *impl.World) { w.Board.Units[0].Owner = 3 }),
	}
	for _, b := range faultyBoards() {
		worlds = append(worlds, turned(midWorld(), func(w *impl.World) { w.Board = b }))
	}
	return worlds
}

func TestBoundsOfSeats(t *testing.T) {
	if impl.MaxSeats != 6 {
		t.Error("bounds", impl.MaxSeats)
	}
}

func TestNewWorld(t *testing.T) {
	got := impl.NewWorld()
	wantWorld(t, "NewWorld", got, impl.WorldResult{World: impl.World{Factions: make([]impl.Faction, 4)}})
	if impl.WorldFault(got.World) != impl.OK {
		t.Error("NewWorld has a fault")
	}
	got.World.Factions[2] = impl.Faction{Purse: 5, Gone: true, Allies: 1}
	got.World.Factions = append(got.World.Factions[:1], got.World.Factions[2:]...)
	wantWorld(t, "NewWorld again", impl.NewWorld(), impl.WorldResult{World: impl.World{Factions: make([]impl.Faction, 4)}})
}

func TestWorldsWithoutFaults(t *testing.T) {
	for _, w := range goodWorlds() {
		if code := impl.WorldFault(w); code != impl.OK || worldFaultByHand(w) != impl.OK {
			t.Errorf("WorldFault(%+v): %d", w, code)
		}
	}
	for _, w := range faultyWorlds() {
		if code := impl.WorldFault(w); code == impl.OK || code != worldFaultByHand(w) {
			t.Errorf("WorldFault(%+v): %d", w, code)
		}
	}
}

// worldCase is a world that is turned, and the fault that it then has.
type worldCase struct {
	name string
	base impl.World
	turn func(w *impl.World)
	code int64
}

func wantWorldFaults(t *testing.T, cases []worldCase) {
	t.Helper()
	for _, c := range cases {
		w := turned(c.base, c.turn)
		if got := impl.WorldFault(w); got != c.code || got != worldFaultByHand(w) {
			t.Errorf("%s: WorldFault(%+v): got %d, want %d", c.name, w, got, c.code)
		}
	}
}

func TestFaultsOfTickSpentAndHowMany(t *testing.T) {
	mid := midWorld()
	wantWorldFaults(t, []worldCase{
		{"Tick 0", mid, func(w *impl.World) { w.Tick = 0 }, impl.OK},
		{"Tick 9999", mid, func(w *impl.World) { w.Tick = 9999 }, impl.OK},
		{"Tick -1", mid, func(w *impl.World) { w.Tick = -1 }, impl.ErrRange},
		{"Tick 10000", mid, func(w *impl.World) { w.Tick = 10000 }, impl.ErrRange},
		{"Spent 0", mid, func(w *impl.World) { w.Spent = 0 }, impl.OK},
		{"Spent 100000000", mid, func(w *impl.World) { w.Spent = 100000000 }, impl.OK},
		{"Spent -1", mid, func(w *impl.World) { w.Spent = -1 }, impl.ErrRange},
		{"Spent 100000001", mid, func(w *impl.World) { w.Spent = 100000001 }, impl.ErrRange},
		{"no factions", mid, func(w *impl.World) { w.Factions = nil }, impl.ErrMany},
		{"three factions", mid, func(w *impl.World) { w.Factions = w.Factions[:3] }, impl.ErrMany},
		{"five factions", mid, func(w *impl.World) { w.Factions = append(w.Factions, impl.Faction{}) }, impl.ErrMany},
		{"five seats", mid, func(w *impl.World) { w.Seats = seatsOf(5) }, impl.OK},
		{"six seats", mid, func(w *impl.World) { w.Seats = seatsOf(6) }, impl.OK},
		{"seven seats", mid, func(w *impl.World) { w.Seats = seatsOf(7) }, impl.ErrMany},
		{"many seats", mid, func(w *impl.World) { w.Seats = make([]impl.Seat, 5000) }, impl.ErrMany},
		{"no seats", mid, func(w *impl.World) { w.Seats = nil }, impl.OK},
		{"empty seats", mid, func(w *impl.World) { w.Seats = []impl.Seat{} }, impl.OK},
		{"six offers", impl.NewWorld().World, func(w *impl.World) { w.Offers = sixOffers() }, impl.OK},
		{"seven offers", impl.NewWorld().World, func(w *impl.World) { w.Offers = append(sixOffers(), impl.Offer{From: 3, To: 0}) }, impl.ErrMany},
		{"no offers", mid, func(w *impl.World) { w.Offers = nil }, impl.OK},
		{"empty offers", mid, func(w *impl.World) { w.Offers = []impl.Offer{} }, impl.OK},
		{"no board", mid, func(w *impl.World) { w.Board = impl.Board{} }, impl.OK},
		// Codes in their order.
		{"Tick ahead of the board's many", mid, func(w *impl.World) { w.Tick, w.Board = -1, boardOf(9, 0) }, impl.ErrRange},
		{"Spent ahead of how many", mid, func(w *impl.World) { w.Spent, w.Factions = -1, nil }, impl.ErrRange},
		{"the board ahead of how many", mid, func(w *impl.World) { w.Board.Units[0].Life, w.Factions = 0, nil }, impl.ErrRange},
		{"the board's form ahead of how many", mid, func(w *impl.World) { w.Board.Units[0].Prey, w.Seats = 1, seatsOf(7) }, impl.ErrForm},
		{"the board's many ahead of a purse", mid, func(w *impl.World) { w.Board, w.Factions[0].Purse = boardOf(9, 0), -1 }, impl.ErrMany},
		{"the board's form ahead of a purse", mid, func(w *impl.World) { w.Board.Units[1].Id, w.Factions[0].Purse = 4, -1 }, impl.ErrForm},
		{"how many factions ahead of a purse", mid, func(w *impl.World) { w.Factions = w.Factions[:3]; w.Factions[0].Purse = -1 }, impl.ErrMany},
		{"how many seats ahead of a purse", mid, func(w *impl.World) { w.Seats, w.Factions[0].Purse = seatsOf(7), -1 }, impl.ErrMany},
		{"how many offers ahead of a purse", mid, func(w *impl.World) { w.Offers, w.Factions[0].Purse = make([]impl.Offer, 7), -1 }, impl.ErrMany},
		{"how many offers ahead of a seat", mid, func(w *impl.World) { w.Offers, w.Seats[0].Client = make([]impl.Offer, 7), -1 }, impl.ErrMany},
	})
}

func TestFaultsOfFactions(t *testing.T) {
	bare, mid := impl.NewWorld().World, midWorld()
	allies := func(a, b, c, d int64) func(w *impl.World) {
		return func(w *impl.World) {
			for i, v := range []int64{a, b, c, d} {
				w.Factions[i].Allies = v
			}
		}
	}
	wantWorldFaults(t, []worldCase{
		{"Purse 0", mid, func(w *impl.World) { w.Factions[3].Purse = 0 }, impl.OK},
		{"Purse MaxPurse", mid, func(w *impl.World) { w.Factions[3].Purse = 1000000 }, impl.OK},
		{"Purse -1", mid, func(w *impl.World) { w.Factions[3].Purse = -1 }, impl.ErrRange},
		{"Purse above", mid, func(w *impl.World) { w.Factions[3].Purse = 1000001 }, impl.ErrRange},
		{"Allies -1", bare, allies(-1, 0, 0, 0), impl.ErrRange},
		{"Allies 16", bare, allies(16, 0, 0, 0), impl.ErrRange},
		{"Allies 15 has itself", bare, allies(15, 15, 15, 15), impl.ErrForm},
		{"all are allies", bare, allies(14, 13, 11, 7), impl.OK},
		{"its own ally 0", bare, allies(1, 0, 0, 0), impl.ErrForm},
		{"its own ally 3", bare, allies(0, 0, 0, 8), impl.ErrForm},
		{"one way ahead", bare, allies(2, 0, 0, 0), impl.ErrForm},
		{"one way behind", bare, allies(0, 1, 0, 0), impl.ErrForm},
		{"one way of the last", bare, allies(0, 0, 0, 1), impl.ErrForm},
		{"both ways", bare, allies(8, 0, 0, 1), impl.OK},
		{"in a ring", bare, allies(2, 4, 8, 1), impl.ErrForm},
		{"three of four", bare, allies(6, 5, 3, 0), impl.OK},
		// What another one has above its bit 3 is asked by its own turn alone.
		{"the other one above 15 has it", bare, allies(2, 17, 0, 0), impl.ErrRange},
		{"the other one above 15 has it not", bare, allies(2, 16, 0, 0), impl.ErrForm},
		{"the other one is above 15 by far and has it", bare, allies(8, 0, 0, math.MaxInt64), impl.ErrRange},
		{"the other one is below 0 and has it", bare, allies(8, 0, 0, -1), impl.ErrRange},
		{"the other one is below 0 and has it not", bare, allies(8, 0, 0, math.MinInt64), impl.ErrForm},
		{"nobody asks the one above 15", bare, allies(0, 0, 0, 16), impl.ErrRange},
		{"above 15 and its own ally", bare, allies(0, 0, 20, 0), impl.ErrRange},
		// Faction by faction.
		{"a form ahead of a range", bare, func(w *impl.World) { w.Factions[0].Allies, w.Factions[1].Purse = 1, -1 }, impl.ErrForm},
		{"a range ahead of a form", bare, func(w *impl.World) { w.Factions[0].Purse, w.Factions[1].Allies = -1, 2 }, impl.ErrRange},
		{"both of one", bare, func(w *impl.World) { w.Factions[2].Purse, w.Factions[2].Allies = -1, 4 }, impl.ErrRange},
		// Who is Gone.
		{"Gone with a purse", bare, func(w *impl.World) { w.Factions[2] = impl.Faction{Purse: 9, Gone: true} }, impl.OK},
		{"Gone with an ally", mid, func(w *impl.World) { w.Factions[1].Gone = true }, impl.ErrForm},
		{"Gone with an ally that has it", bare, func(w *impl.World) { allies(8, 0, 0, 1)(w); w.Factions[3].Gone = true }, impl.ErrForm},
		{"Gone and above 15", bare, func(w *impl.World) { w.Factions[3] = impl.Faction{Gone: true, Allies: 16} }, impl.ErrRange},
		{"Gone and its own ally", bare, func(w *impl.World) { w.Factions[3] = impl.Faction{Gone: true, Allies: 8} }, impl.ErrForm},
	})
}

func TestAllAlliancesThereAre(t *testing.T) {
	for all := range int64(65536) {
		for _, gone := range []int64{-1, 0, 3} {
			w := impl.NewWorld().World
			for i := range int64(4) {
				w.Factions[i].Allies = all >> (4 * i) & 15
				w.Factions[i].Gone = i == gone
			}
			code := worldFaultByHand(w)
			if got := impl.WorldFault(w); got != code {
				t.Fatalf("WorldFault(%+v): got %d, want %d", w, got, code)
			}
			if code != impl.OK {
				continue
			}
			for a := range int64(4) {
				for b := range int64(4) {
					if got := impl.AreAllies(w, a, b); got != bitByHand(w.Factions[a].Allies, b) || got != impl.AreAllies(w, b, a) {
						t.Fatalf("AreAllies(%+v, %d, %d): %v", w, a, b, got)
					}
				}
			}
		}
	}
}

func TestFaultsOfSeats(t *testing.T) {
	mid, gone := midWorld(), goneWorld()
	wantWorldFaults(t, []worldCase{
		{"Client 0 to 5", mid, func(w *impl.World) { w.Seats[0].Client, w.Seats[2].Client = 0, 5 }, impl.OK},
		{"Client -1", mid, func(w *impl.World) { w.Seats[0].Client = -1 }, impl.ErrRange},
		{"Client 6", mid, func(w *impl.World) { w.Seats[2].Client = 6 }, impl.ErrRange},
		{"Faction 0 and 3", mid, func(w *impl.World) { w.Seats[0].Faction, w.Seats[1].Faction = 0, 3 }, impl.OK},
		{"Faction -1", mid, func(w *impl.World) { w.Seats[0].Faction = -1 }, impl.ErrRange},
		{"Faction 4", mid, func(w *impl.World) { w.Seats[0].Faction = 4 }, impl.ErrRange},
		{"Mask 0 and 2047", mid, func(w *impl.World) { w.Seats[0].Mask, w.Seats[1].Mask = 0, 2047 }, impl.OK},
		{"Mask -1", mid, func(w *impl.World) { w.Seats[0].Mask = -1 }, impl.ErrRange},
		{"Mask 2048", mid, func(w *impl.World) { w.Seats[0].Mask = 2048 }, impl.ErrRange},
		{"Last 0 and 999", mid, func(w *impl.World) { w.Seats[0].Last, w.Seats[1].Last = 0, 999 }, impl.OK},
		{"Last -1", mid, func(w *impl.World) { w.Seats[0].Last = -1 }, impl.ErrRange},
		{"Last 1000", mid, func(w *impl.World) { w.Seats[0].Last = 1000 }, impl.ErrRange},
		{"two of one client", mid, func(w *impl.World) { w.Seats[1].Client = 1 }, impl.ErrForm},
		{"the same seat twice", mid, func(w *impl.World) { w.Seats[1] = w.Seats[0] }, impl.ErrForm},
		{"falling", mid, func(w *impl.World) { w.Seats[0], w.Seats[1] = w.Seats[1], w.Seats[0] }, impl.ErrForm},
		{"falling at the end", mid, func(w *impl.World) { w.Seats[2].Client = 2 }, impl.ErrForm},
		{"of one who is Gone", gone, func(w *impl.World) { w.Seats[0].Faction = 3 }, impl.ErrForm},
		{"the last of one who is Gone", gone, func(w *impl.World) { w.Seats[2].Faction = 3 }, impl.ErrForm},
		// Seat by seat, the range of each ahead of its form.
		{"a form ahead of a range", mid, func(w *impl.World) { w.Seats[1].Client, w.Seats[2].Mask = 1, -1 }, impl.ErrForm},
		{"a range ahead of a form", mid, func(w *impl.World) { w.Seats[0].Mask, w.Seats[2].Client = -1, 3 }, impl.ErrRange},
		{"both of one", mid, func(w *impl.World) { w.Seats[2].Last, w.Seats[2].Client = 1000, 3 }, impl.ErrRange},
		{"both of one who is Gone", gone, func(w *impl.World) { w.Seats[0].Faction, w.Seats[0].Last = 3, -1 }, impl.ErrRange},
		// A faction's fault is asked ahead of a seat's.
		{"a faction's form ahead", mid, func(w *impl.World) { w.Factions[3].Allies, w.Seats[0].Client = 8, -1 }, impl.ErrForm},
		{"a faction's range ahead", mid, func(w *impl.World) { w.Factions[3].Allies, w.Seats[1].Client = 16, 1 }, impl.ErrRange},
	})
}

func TestFaultsOfOffersAndOwners(t *testing.T) {
	mid, gone := midWorld(), goneWorld()
	wantWorldFaults(t, []worldCase{
		{"From -1", mid, func(w *impl.World) { w.Offers[2].From = -1 }, impl.ErrRange},
		{"From 4", mid, func(w *impl.World) { w.Offers[2].From = 4 }, impl.ErrRange},
		{"To -1", mid, func(w *impl.World) { w.Offers[2].To = -1 }, impl.ErrRange},
		{"To 4", mid, func(w *impl.World) { w.Offers[2].To = 4 }, impl.ErrRange},
		{"both are 4", mid, func(w *impl.World) { w.Offers[2] = impl.Offer{From: 4, To: 4} }, impl.ErrRange},
		{"to oneself", mid, func(w *impl.World) { w.Offers[2].To = 3 }, impl.ErrForm},
		{"to oneself at 0", mid, func(w *impl.World) { w.Offers[0] = impl.Offer{} }, impl.ErrForm},
		{"to an ally", mid, func(w *impl.World) { w.Offers[2] = impl.Offer{From: 0, To: 1} }, impl.ErrForm},
		{"to an ally, the other way", mid, func(w *impl.World) { w.Offers[2] = impl.Offer{From: 1, To: 0} }, impl.ErrForm},
		{"of an ally to another", mid, func(w *impl.World) { w.Offers[2] = impl.Offer{From: 1, To: 2} }, impl.OK},
		{"from one who is Gone", gone, func(w *impl.World) { w.Offers[1].From = 3 }, impl.ErrForm},
		{"to one who is Gone", gone, func(w *impl.World) { w.Offers[1].To = 3 }, impl.ErrForm},
		{"twice", mid, func(w *impl.World) { w.Offers[2] = w.Offers[0] }, impl.ErrForm},
		{"twice side by side", mid, func(w *impl.World) { w.Offers[1] = w.Offers[0] }, impl.ErrForm},
		{"in any order", mid, func(w *impl.World) { slices.Reverse(w.Offers) }, impl.OK},
		// Offer by offer, the range of each ahead of its form.
		{"a form ahead of a range", mid, func(w *impl.World) { w.Offers[0].To, w.Offers[1].To = 2, 4 }, impl.ErrForm},
		{"a range ahead of a form", mid, func(w *impl.World) { w.Offers[0].To, w.Offers[1].To = -1, 0 }, impl.ErrRange},
		{"a seat's range ahead of an offer's form", mid, func(w *impl.World) { w.Seats[2].Mask, w.Offers[0].To = -1, 2 }, impl.ErrRange},
		{"a seat's form ahead of an offer's range", mid, func(w *impl.World) { w.Seats[2].Client, w.Offers[0].To = 3, 4 }, impl.ErrForm},
		{"an offer's range ahead of an owner", gone, func(w *impl.World) { w.Offers[0].To, w.Board.Units[0].Owner = 4, 3 }, impl.ErrRange},
		// Owners.
		{"of one who is Gone", gone, func(w *impl.World) { w.Board.Units[0].Owner = 3 }, impl.ErrForm},
		{"of one who is there", gone, func(w *impl.World) { w.Board.Units[0].Owner = 2 }, impl.OK},
		{"of nobody", gone, func(w *impl.World) { w.Board.Units[0].Owner = impl.Nobody }, impl.OK},
		{"of nobody, where all are Gone", goodWorlds()[5], func(w *impl.World) { w.Board.Units = []impl.Unit{{Id: 1, Owner: impl.Nobody, Life: 1}} }, impl.OK},
		{"the last one of one who is Gone", gone, func(w *impl.World) {
			w.Board.Units = append(w.Board.Units, impl.Unit{Id: 8, Owner: 0, Life: 1}, impl.Unit{Id: 9, Owner: 3, Life: 1})
		}, impl.ErrForm},
	})
}

// numbersOfWorld are all numbers of a world, with the ends of their bounds and what lies beyond.
func numbersOfWorld(w *impl.World) ([]*int64, [][]int64) {
	var at []*int64
	var edges [][]int64
	add := func(v *int64, low int64, high int64) {
		at, edges = append(at, v), append(edges, append(outside(low, high), low, low+1, high))
	}
	add(&w.Tick, 0, 9999)
	add(&w.Spent, 0, 100000000)
	for i := range w.Board.Units {
		add(&w.Board.Units[i].Owner, 0, 3)
		add(&w.Board.Units[i].Id, 1, 99)
	}
	for i := range w.Board.Fields {
		add(&w.Board.Fields[i].Left, 0, 10000)
	}
	for i := range w.Factions {
		add(&w.Factions[i].Purse, 0, 1000000)
		add(&w.Factions[i].Allies, 0, 15)
	}
	for i := range w.Seats {
		add(&w.Seats[i].Client, 0, 5)
		add(&w.Seats[i].Faction, 0, 3)
		add(&w.Seats[i].Mask, 0, 2047)
		add(&w.Seats[i].Last, 0, 999)
	}
	for i := range w.Offers {
		add(&w.Offers[i].From, 0, 3)
		add(&w.Offers[i].To, 0, 3)
	}
	return at, edges
}

func TestEveryTwoNumbersOfAWorldAtTheirEdges(t *testing.T) {
	for _, base := range []impl.World{midWorld(), goneWorld()} {
		w := copyOfWorld(base)
		at, edges := numbersOfWorld(&w)
		for i := range at {
			for j := i + 1; j < len(at); j++ {
				was, too := *at[i], *at[j]
				for _, v := range edges[i] {
					for _, u := range edges[j] {
						*at[i], *at[j] = v, u
						if got, want := impl.WorldFault(w), worldFaultByHand(w); got != want {
							t.Fatalf("WorldFault(%+v): got %d, want %d", w, got, want)
						}
					}
				}
				*at[i], *at[j] = was, too
			}
		}
	}
}

// world is one of few numbers, so that faults are met often, and worlds without one as well.
func (d *dice) world() impl.World {
	w := impl.World{Tick: d.pick(0, 5, 9999), Spent: d.pick(0, 7, 100000000), Board: d.board(), Factions: make([]impl.Faction, 4)}
	for a := range w.Factions {
		w.Factions[a].Purse = d.pick(0, 1, 500, 1000000)
		w.Factions[a].Gone = d.roll(12) == 0
		for b := range a {
			if d.roll(4) == 0 {
				w.Factions[a].Allies |= 1 << b
				w.Factions[b].Allies |= 1 << a
			}
		}
	}
	for client := range int64(6) {
		if d.roll(2) == 0 {
			w.Seats = append(w.Seats, impl.Seat{Client: client, Faction: d.roll(4), Mask: d.roll(2048), Last: d.roll(1000)})
		}
	}
	for range d.pick(0, 0, 0, 1, 1, 2, 3) {
		w.Offers = append(w.Offers, impl.Offer{From: d.roll(4), To: d.roll(4)})
	}
	return w
}

func someWorlds(n int) []impl.World {
	worlds, d := goodWorlds(), dice(11)
	for range n {
		worlds = append(worlds, d.world())
	}
	return worlds
}

func TestFaultsOfManyWorlds(t *testing.T) {
	good, codes := 0, map[int64]int{}
	for _, w := range someWorlds(20000) {
		want := worldFaultByHand(w)
		if got := impl.WorldFault(w); got != want {
			t.Fatalf("WorldFault(%+v): got %d, want %d", w, got, want)
		}
		if got := impl.TotalOf(w); got != totalByHand(w) {
			t.Fatalf("TotalOf(%+v): got %+v", w, got)
		}
		codes[want]++
		if want == impl.OK {
			good++
		}
	}
	if good < 1000 || codes[impl.ErrForm] < 1000 {
		t.Error("too few of one kind", codes)
	}
}

func TestASeatThatIsTaken(t *testing.T) {
	w := impl.TakeSeat(midWorld(), 2, 3, 1029)
	want := midWorld()
	want.Seats = slices.Insert(want.Seats, 1, impl.Seat{Client: 2, Faction: 3, Mask: 1029})
	wantWorld(t, "taken", w, impl.WorldResult{World: want})
	wantSeat(t, "found", impl.SeatOf(w.World, 2), impl.SeatResult{Seat: impl.Seat{Client: 2, Faction: 3, Mask: 1029}})

	again := impl.TakeSeat(midWorld(), 3, 1, 0)
	want = midWorld()
	want.Seats[1] = impl.Seat{Client: 3, Faction: 1, Mask: 0, Last: 999}
	wantWorld(t, "another faction and mask", again, impl.WorldResult{World: want})
	wantSeat(t, "found again", impl.SeatOf(again.World, 3), impl.SeatResult{Seat: want.Seats[1]})

	mask := impl.TakeSeat(again.World, 3, 1, 2047)
	want.Seats[1].Mask = 2047
	wantWorld(t, "another mask", mask, impl.WorldResult{World: want})
	same := impl.TakeSeat(mask.World, 3, 1, 2047)
	wantWorld(t, "the same again", same, mask)
}

func TestSeatsTakenInFallingOrderRise(t *testing.T) {
	w := impl.NewWorld().World
	for client := int64(5); client >= 0; client-- {
		taken := impl.TakeSeat(w, client, client%4, 2047-client)
		if taken.Code != impl.OK || len(taken.World.Seats) != int(6-client) {
			t.Fatalf("client %d: %+v", client, taken)
		}
		w = taken.World
	}
	for i, s := range w.Seats {
		c := int64(i)
		if s != (impl.Seat{Client: c, Faction: c % 4, Mask: 2047 - c}) {
			t.Errorf("place %d: %+v", i, s)
		}
	}
	if impl.WorldFault(w) != impl.OK {
		t.Error("a fault in", w)
	}
}

func TestAFullWorld(t *testing.T) {
	full := impl.NewWorld().World
	full.Seats = seatsOf(6)
	wantNoWorld(t, "a new client", impl.TakeSeat(full, 6, 0, 0), impl.ErrRange)
	wantNoWorld(t, "a new client below", impl.TakeSeat(full, -1, 0, 0), impl.ErrRange)
	for client := range int64(6) {
		want := copyOfWorld(full)
		want.Seats[client].Faction, want.Seats[client].Mask = 3, 77
		wantWorld(t, fmt.Sprint("client ", client), impl.TakeSeat(full, client, 3, 77), impl.WorldResult{World: want})
	}
	almost := impl.NewWorld().World
	almost.Seats = seatsOf(5)
	wantWorld(t, "the last seat", impl.TakeSeat(almost, 5, 1, 32), takeByHand(almost, 5, 1, 32))
}

func TestTakeSeatAtItsEdges(t *testing.T) {
	clients, factions := append(outside(0, 5), 0, 1, 2, 3, 4, 5), append(outside(0, 3), 0, 1, 2, 3, impl.Nobody)
	masks := append(outside(0, 2047), 0, 1, 1024, 2047)
	for _, w := range append(goodWorlds(), faultyWorlds()...) {
		for _, client := range clients {
			for _, faction := range factions {
				for _, mask := range masks {
					call := fmt.Sprintf("TakeSeat(%+v, %d, %d, %d)", w, client, faction, mask)
					got, want := impl.TakeSeat(w, client, faction, mask), takeByHand(w, client, faction, mask)
					if want.Code != impl.OK {
						wantNoWorld(t, call, got, want.Code)
						continue
					}
					wantWorld(t, call, got, want)
					checkTaken(t, call, w, got.World, client)
				}
			}
		}
	}
}

// checkTaken asks that all but one client's seat is as it was, and that there is no fault.
func checkTaken(t *testing.T, call string, was impl.World, now impl.World, client int64) {
	t.Helper()
	if impl.WorldFault(now) != impl.OK || impl.TotalOf(now) != impl.TotalOf(was) {
		t.Errorf("%s: a fault, or another total", call)
	}
	for other := range int64(6) {
		if other != client && impl.SeatOf(was, other) != impl.SeatOf(now, other) {
			t.Errorf("%s: the seat of %d turned", call, other)
		}
	}
	back := now
	back.Seats = was.Seats
	if !impl.SameWorlds(was, back) {
		t.Errorf("%s: more than seats turned", call)
	}
}

func TestTakeSeatAsksInOrder(t *testing.T) {
	gone := goneWorld()
	wantNoWorld(t, "a faction that is Gone", impl.TakeSeat(gone, 0, 3, 5), impl.ErrState)
	wantNoWorld(t, "who has a seat, for one who is Gone", impl.TakeSeat(gone, 1, 3, 5), impl.ErrState)
	wantNoWorld(t, "a range ahead of that", impl.TakeSeat(gone, 6, 3, 5), impl.ErrRange)
	wantNoWorld(t, "a mask ahead of that", impl.TakeSeat(gone, 1, 3, 2048), impl.ErrRange)
	gone.Seats = seatsOf(3)
	wantNoWorld(t, "a new client, for one who is Gone", impl.TakeSeat(gone, 4, 3, 5), impl.ErrState)
	gone.Offers[0].To = 2
	wantNoWorld(t, "a fault ahead of a range", impl.TakeSeat(gone, 6, 3, 5), impl.ErrForm)
	wantNoWorld(t, "a fault ahead of a state", impl.TakeSeat(gone, 0, 3, 5), impl.ErrForm)
}

func TestSeatOf(t *testing.T) {
	for _, w := range append(goodWorlds(), faultyWorlds()...) {
		code := worldFaultByHand(w)
		for _, client := range append(outside(0, 5), 0, 1, 2, 3, 4, 5) {
			want := impl.SeatResult{Code: impl.ErrNone}
			for _, s := range w.Seats {
				if s.Client == client {
					want = impl.SeatResult{Seat: s}
				}
			}
			if code != impl.OK {
				want = impl.SeatResult{Code: code}
			}
			wantSeat(t, fmt.Sprintf("SeatOf(%+v, %d)", w, client), impl.SeatOf(w, client), want)
		}
	}
}

func TestHasRight(t *testing.T) {
	for kind := int64(1); kind <= 11; kind++ {
		alone := int64(1) << (kind - 1)
		if !impl.HasRight(alone, kind) || impl.HasRight(2047-alone, kind) || !impl.HasRight(2047, kind) || impl.HasRight(0, kind) {
			t.Error("kind", kind)
		}
		for _, mask := range append(outside(0, 2047), 2048+alone, alone-4096, 4095) {
			if impl.HasRight(mask, kind) {
				t.Error("kind", kind, "mask", mask)
			}
		}
		for mask := range int64(2048) {
			if impl.HasRight(mask, kind) != bitByHand(mask, kind-1) {
				t.Error("kind", kind, "mask", mask)
			}
		}
	}
	for _, kind := range append(outside(1, 11), 64, 65, 256, 257, 1<<32+1) {
		for _, mask := range append(outside(0, 2047), 0, 1, 2047, 4095) {
			if impl.HasRight(mask, kind) {
				t.Error("kind", kind, "mask", mask)
			}
		}
	}
}

func TestAreAllies(t *testing.T) {
	mid := midWorld()
	for _, a := range append(outside(0, 3), 0, 1, 2, 3, impl.Nobody, 32, 64) {
		for _, b := range append(outside(0, 3), 0, 1, 2, 3, impl.Nobody, 32, 64) {
			want := a == 0 && b == 1 || a == 1 && b == 0
			if impl.AreAllies(mid, a, b) != want {
				t.Error("AreAllies", a, b)
			}
			for _, w := range faultyWorlds() {
				if impl.AreAllies(w, a, b) {
					t.Errorf("AreAllies(%+v, %d, %d)", w, a, b)
				}
			}
		}
	}
}

func TestTotalOf(t *testing.T) {
	bare := impl.NewWorld().World
	wantInt(t, "nothing", impl.TotalOf(bare), impl.OK, 0)
	purses := turned(bare, func(w *impl.World) {
		for i, v := range []int64{1, 20, 300, 4000} {
			w.Factions[i].Purse = v
		}
	})
	wantInt(t, "purses", impl.TotalOf(purses), impl.OK, 4321)
	spent := turned(bare, func(w *impl.World) { w.Spent = 50000 })
	wantInt(t, "spent", impl.TotalOf(spent), impl.OK, 50000)
	board := turned(bare, func(w *impl.World) { w.Board = midWorld().Board })
	wantInt(t, "carried and left", impl.TotalOf(board), impl.OK, 6+1+20+30+500)
	wantInt(t, "all of it", impl.TotalOf(midWorld()), impl.OK, 345+557+321007)
	wantInt(t, "of one who is Gone, too", impl.TotalOf(goneWorld()), impl.OK, 345+1+530+321008)
	most := turned(bare, func(w *impl.World) {
		w.Spent = 100000000
		for i := range w.Factions {
			w.Factions[i].Purse = 1000000
		}
		for id := range int64(8) {
			w.Board.Units = append(w.Board.Units, impl.Unit{Id: id + 1, Owner: impl.Nobody, Life: 1, Carry: 20})
		}
		w.Board.Fields = []impl.Field{{Left: 10000}, {Left: 10000}, {Left: 10000}, {Left: 10000}}
	})
	wantInt(t, "the most", impl.TotalOf(most), impl.OK, 104040160)
	for _, w := range faultyWorlds() {
		wantInt(t, fmt.Sprintf("TotalOf(%+v)", w), impl.TotalOf(w), worldFaultByHand(w), 0)
	}
}

// otherWorlds are midWorld, each with one part turned.
func otherWorlds() []impl.World {
	var worlds []impl.World
	add := func(turn func(w *impl.World)) {
		worlds = append(worlds, turned(midWorld(), turn))
	}
	count, _ := numbersOfWorld(&impl.World{Board: midWorld().Board, Factions: midWorld().Factions, Seats: midWorld().Seats, Offers: midWorld().Offers})
	for i := range count {
		add(func(w *impl.World) {
			at, _ := numbersOfWorld(w)
			*at[i] += 1000
		})
	}
	for i := range 10 {
		add(func(w *impl.World) { *fieldsOfUnit(&w.Board.Units[1])[i]++ })
	}
	add(func(w *impl.World) { w.Board.Fields[1].X++ })
	add(func(w *impl.World) { w.Board.Fields[1].Y++ })
	for i := range 4 {
		add(func(w *impl.World) { w.Factions[i].Gone = true })
	}
	add(func(w *impl.World) { w.Board.Units = w.Board.Units[:2] })
	add(func(w *impl.World) { w.Board.Fields = w.Board.Fields[:1] })
	add(func(w *impl.World) { w.Factions = w.Factions[:3] })
	add(func(w *impl.World) { w.Seats = w.Seats[:2] })
	add(func(w *impl.World) { w.Offers = w.Offers[:2] })
	add(func(w *impl.World) { w.Offers = append(w.Offers, impl.Offer{}) })
	add(func(w *impl.World) { w.Seats = append(w.Seats, impl.Seat{}) })
	add(func(w *impl.World) { w.Factions = append(w.Factions, impl.Faction{}) })
	add(func(w *impl.World) { w.Offers[0], w.Offers[1] = w.Offers[1], w.Offers[0] })
	add(func(w *impl.World) { w.Seats[0], w.Seats[1] = w.Seats[1], w.Seats[0] })
	add(func(w *impl.World) { w.Factions[2], w.Factions[3] = w.Factions[3], w.Factions[2] })
	add(func(w *impl.World) { w.Board.Units[0], w.Board.Units[1] = w.Board.Units[1], w.Board.Units[0] })
	add(func(w *impl.World) { w.Board.Fields[0], w.Board.Fields[1] = w.Board.Fields[1], w.Board.Fields[0] })
	return worlds
}

func TestSameWorlds(t *testing.T) {
	for _, w := range append(append(goodWorlds(), faultyWorlds()...), otherWorlds()...) {
		if !impl.SameWorlds(w, w) || !impl.SameWorlds(w, copyOfWorld(w)) {
			t.Errorf("not the same as itself: %+v", w)
		}
	}
	for _, w := range otherWorlds() {
		if impl.SameWorlds(midWorld(), w) || impl.SameWorlds(w, midWorld()) {
			t.Errorf("the same: %+v", w)
		}
	}
	empty := impl.World{Board: impl.Board{Units: []impl.Unit{}, Fields: []impl.Field{}}, Factions: []impl.Faction{}, Seats: []impl.Seat{}, Offers: []impl.Offer{}}
	if !impl.SameWorlds(empty, impl.World{}) || !impl.SameWorlds(impl.World{}, empty) {
		t.Error("an empty list is not nil")
	}
}

// worldAnswers are those of all functions of worlds, for one world.
func worldAnswers(w impl.World, other impl.World) []any {
	answers := []any{impl.WorldFault(w), impl.NewWorld(), impl.TotalOf(w), impl.SameWorlds(w, other), impl.HasRight(w.Tick, w.Tick)}
	for v := int64(-1); v <= 6; v++ {
		answers = append(answers, impl.SeatOf(w, v), impl.TakeSeat(w, v, 2, 5), impl.TakeSeat(w, 4, v, 5), impl.AreAllies(w, v, 1), impl.AreAllies(w, 0, v))
	}
	return answers
}

func TestAnswersOfWorldsHangOnArgumentsAlone(t *testing.T) {
	worlds := append(append(goodWorlds(), faultyWorlds()...), otherWorlds()...)
	first := make([][]any, len(worlds))
	for i, w := range worlds {
		first[i] = worldAnswers(w, worlds[(i+1)%len(worlds)])
	}
	for i := len(worlds) - 1; i >= 0; i-- {
		if again := worldAnswers(copyOfWorld(worlds[i]), copyOfWorld(worlds[(i+1)%len(worlds)])); !reflect.DeepEqual(again, first[i]) {
			t.Errorf("another answer of %+v", worlds[i])
		}
	}
}

func TestWorldsAreNotChanged(t *testing.T) {
	worlds := append(append(goodWorlds(), faultyWorlds()...), otherWorlds()...)
	for i, w := range worlds {
		other := worlds[(i+1)%len(worlds)]
		was, too := copyOfWorld(w), copyOfWorld(other)
		worldAnswers(w, other)
		if !sameByHand(fullOf(w), fullOf(was)) || !sameByHand(fullOf(other), fullOf(too)) {
			t.Errorf("changed: %+v", was)
		}
	}
}

// spoilWorld turns all that lies in the lists of a world, behind their ends as well.
func spoilWorld(w impl.World) {
	full := fullOf(w)
	for i := range full.Board.Units {
		full.Board.Units[i] = impl.Unit{Id: -7}
	}
	for i := range full.Board.Fields {
		full.Board.Fields[i] = impl.Field{X: -7}
	}
	for i := range full.Factions {
		full.Factions[i] = impl.Faction{Purse: -7}
	}
	for i := range full.Seats {
		full.Seats[i] = impl.Seat{Client: -7}
	}
	for i := range full.Offers {
		full.Offers[i] = impl.Offer{From: -7}
	}
}

func TestAnswersOfWorldsAreNewMemory(t *testing.T) {
	for _, w := range goodWorlds() {
		for client := range int64(6) {
			mine := copyOfWorld(w)
			first, second := impl.TakeSeat(mine, client, 1, 9), impl.TakeSeat(mine, client, 1, 9)
			kept := copyOfWorld(second.World)
			spoilWorld(first.World)
			if !sameByHand(fullOf(mine), fullOf(w)) || !sameByHand(second.World, kept) {
				t.Fatalf("an answer shares memory: %+v", w)
			}
			spoilWorld(mine)
			if !sameByHand(second.World, kept) {
				t.Fatalf("an answer shares memory with its argument: %+v", w)
			}
		}
	}
	first, second := impl.NewWorld().World, impl.NewWorld().World
	spoilWorld(first)
	if !slices.Equal(second.Factions, make([]impl.Faction, 4)) {
		t.Error("NewWorld shares memory", second)
	}
}
