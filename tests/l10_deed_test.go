package tests

import (
	"fmt"
	"math"
	"reflect"
	"slices"
	"testing"

	"loop.example/g00646/impl"
)

// doByHand tells the Last behind the deed, of a seat that is there still.
func doByHand(w impl.World, c impl.Command) impl.DeedResult {
	if code := authoriseByHand(w, c); code != impl.OK {
		return impl.DeedResult{Code: code}
	}
	now := deedByHand(w, w.Seats[seatByHand(w, c.Client)].Faction, c)
	if at := seatByHand(now, c.Client); at >= 0 {
		now.Seats[at].Last = c.Seq
	}
	return impl.DeedResult{World: now}
}

func deedByHand(w impl.World, side int64, c impl.Command) impl.World {
	now := copyOfWorld(w)
	switch c.Kind {
	case impl.DoMove, impl.DoHarvest, impl.DoAttack:
		u := &now.Board.Units[unitByHand(now, c.A)]
		stopByHand(u)
		u.Job = c.Kind
		if c.Kind == impl.DoMove {
			u.ToX, u.ToY = c.B, c.C
		} else {
			u.Prey = c.B
		}
	case impl.DoTribute:
		return tributeByHand(w, side, c.A, c.B).World
	case impl.DoGift:
		return giftByHand(w, side, c.A, c.B).World
	case impl.DoOffer:
		return offerByHand(w, side, c.A).World
	case impl.DoAccept:
		return acceptByHand(w, side, c.A).World
	case impl.DoBreak:
		return breakByHand(w, side, c.A).World
	case impl.DoMask:
		now.Seats[seatByHand(now, c.A)].Mask = c.B
	case impl.DoSurrender:
		return leaveSideByHand(w, side).World
	case impl.DoLeave:
		return leaveSeatByHand(w, c.Client).World
	}
	return now
}

func roomsByHand(w impl.World) []int64 {
	rooms := make([]int64, 4)
	for i := range rooms {
		rooms[i] = 1000000 - w.Factions[i].Purse
	}
	return rooms
}

func timeByHand(w impl.World) impl.WorldResult {
	if code := worldFaultByHand(w); code != impl.OK {
		return impl.WorldResult{Code: code}
	}
	h := handOf(w.Board, roomsByHand(w))
	h.board(1)
	if w.Tick == 9999 || w.Spent+h.lost > 100000000 {
		return impl.WorldResult{Code: impl.ErrFull}
	}
	now := copyOfWorld(w)
	now.Board = h.result().Board
	for i, gain := range h.gains {
		now.Factions[i].Purse += gain
	}
	now.Spent += h.lost
	now.Tick++
	return impl.WorldResult{World: now}
}

func allByHand(w impl.World, list []impl.Command) impl.DeedsResult {
	if code := worldFaultByHand(w); code != impl.OK {
		return impl.DeedsResult{Code: code}
	}
	if len(list) > 20 {
		return impl.DeedsResult{Code: impl.ErrMany}
	}
	result := impl.DeedsResult{World: copyOfWorld(w)}
	for _, c := range list {
		done := doByHand(result.World, c)
		result.Codes = append(result.Codes, done.Code)
		if done.Code == impl.OK {
			result.World = done.World
		}
	}
	return result
}

func winnerByHand(w impl.World) impl.IntResult {
	if code := worldFaultByHand(w); code != impl.OK {
		return impl.IntResult{Code: code}
	}
	result := impl.IntResult{Code: impl.ErrNone}
	for side := range int64(4) {
		others := 0
		for other, f := range w.Factions {
			if int64(other) != side && !f.Gone {
				others++
			}
		}
		if others == 0 && !w.Factions[side].Gone {
			result = impl.IntResult{Value: side}
		}
	}
	return result
}

// asWorld is what is done, as the checks of worlds ask for it.
func asWorld(d impl.DeedResult) impl.WorldResult {
	return impl.WorldResult{Code: d.Code, World: d.World}
}

func wantDone(t *testing.T, w impl.World, c impl.Command, want impl.World) impl.World {
	t.Helper()
	call := fmt.Sprintf("DoCommand(%+v)", c)
	got := impl.DoCommand(w, c)
	wantWorld(t, call, asWorld(got), impl.WorldResult{World: want})
	wantWorld(t, call+" by hand", asWorld(doByHand(w, c)), impl.WorldResult{World: want})
	return got.World
}

// wantNotDone asks for a code, and that all else is zero.
func wantNotDone(t *testing.T, w impl.World, c impl.Command, code int64) {
	t.Helper()
	was := copyOfWorld(w)
	if got := impl.DoCommand(w, c); !reflect.DeepEqual(got, impl.DeedResult{Code: code}) {
		t.Errorf("DoCommand(%+v): got %+v, want code %d and nothing else", c, got, code)
	}
	if !sameByHand(fullOf(w), fullOf(was)) {
		t.Errorf("DoCommand(%+v) changed %+v", c, was)
	}
}

func wantAll(t *testing.T, call string, got impl.DeedsResult, want impl.DeedsResult) {
	t.Helper()
	if want.Code != impl.OK {
		if !reflect.DeepEqual(got, impl.DeedsResult{Code: want.Code}) {
			t.Errorf("%s: got %+v, want code %d and nothing else", call, got, want.Code)
		}
		return
	}
	if got.Code != impl.OK || !slices.Equal(got.Codes, want.Codes) || !sameByHand(got.World, want.World) {
		t.Errorf("%s: got %+v, want %+v", call, got, want)
	}
}

// heardAt is a world in which something was turned, and the seat in that place said the Seq 999.
func heardAt(w impl.World, place int, turn func(w *impl.World)) impl.World {
	return turned(w, func(w *impl.World) {
		w.Seats[place].Last = 999
		turn(w)
	})
}

func TestEachKindIsDone(t *testing.T) {
	w := gateWorld()
	for _, c := range []struct {
		said impl.Command
		turn func(w *impl.World)
	}{
		{said(0, impl.DoMove, 2, 5, 6), func(w *impl.World) {
			w.Board.Units[0] = impl.Unit{Id: 2, Owner: 0, X: 1, Y: 1, Life: 9, Job: impl.DoMove, ToX: 5, ToY: 6}
		}},
		{said(0, impl.DoHarvest, 2, 1), func(w *impl.World) {
			w.Board.Units[0] = impl.Unit{Id: 2, Owner: 0, X: 1, Y: 1, Life: 9, Job: impl.DoHarvest, Prey: 1}
		}},
		{said(0, impl.DoAttack, 2, 99), func(w *impl.World) {
			w.Board.Units[0] = impl.Unit{Id: 2, Owner: 0, X: 1, Y: 1, Life: 9, Job: impl.DoAttack, Prey: 99}
		}},
		{said(0, impl.DoTribute, 1, 500), func(w *impl.World) { w.Factions[0].Purse, w.Factions[1].Purse = 0, 520 }},
		{said(0, impl.DoTribute, 2, 3), func(w *impl.World) { w.Factions[0].Purse, w.Factions[2].Purse = 497, 999003 }},
		{said(0, impl.DoGift, 4, 2), func(w *impl.World) {
			w.Board.Units[1] = impl.Unit{Id: 4, Owner: 2, X: 11, Y: 11, Life: 9, Carry: 3}
		}},
		{said(0, impl.DoOffer, 1), func(w *impl.World) {
			w.Offers = []impl.Offer{{From: 1, To: 0}, {From: 0, To: 2}, {From: 0, To: 1}}
		}},
		{said(0, impl.DoAccept, 1), func(w *impl.World) {
			alliesAre(2, 5, 2, 0)(w)
			w.Offers = []impl.Offer{{From: 0, To: 2}}
		}},
		{said(0, impl.DoMask, 1, 9), func(w *impl.World) { w.Seats[1].Mask = 9 }},
		{said(0, impl.DoSurrender), func(w *impl.World) {
			w.Spent, w.Factions[0] = 540, impl.Faction{Gone: true}
			w.Seats, w.Offers = w.Seats[2:], nil
			w.Board.Units[0].Owner = impl.Nobody
			w.Board.Units[1] = impl.Unit{Id: 4, Owner: impl.Nobody, X: 11, Y: 11, Life: 9, Carry: 3}
		}},
		{said(0, impl.DoLeave), func(w *impl.World) { w.Seats = w.Seats[1:] }},
	} {
		wantDone(t, w, c.said, heardAt(w, 0, c.turn))
	}
	wantDone(t, w, said(2, impl.DoBreak, 2), heardAt(w, 2, alliesAre(0, 0, 0, 0)))
	wantDone(t, allied(), said(3, impl.DoBreak, 1), heardAt(allied(), 3, alliesAre(2, 1, 0, 0)))
	wantDone(t, w, said(4, impl.DoMask, 2, 0), heardAt(w, 4, func(w *impl.World) { w.Seats[2].Mask = 0 }))
}

// workers has units of side 0 with each job, and a prey and fields for each new one.
func workers() impl.World {
	return turned(gateWorld(), func(w *impl.World) {
		w.Board.Units = []impl.Unit{
			{Id: 1, Owner: 0, X: 3, Y: 4, Life: 50, Carry: 20},
			{Id: 2, Owner: 0, X: 3, Y: 4, Life: 1, Carry: 19, Job: impl.DoMove, ToX: 7, ToY: 8},
			{Id: 3, Owner: 0, X: 3, Y: 4, Life: 7, Job: impl.DoHarvest, Prey: 2},
			{Id: 4, Owner: 0, X: 3, Y: 4, Life: 9, Carry: 1, Job: impl.DoAttack, Prey: 77},
			{Id: 6, Owner: 1, X: 3, Y: 4, Life: 9, Job: impl.DoMove, ToX: 1},
			{Id: 99, Owner: impl.Nobody, X: 3, Y: 4, Life: 9, Job: impl.DoAttack, Prey: 1},
		}
	})
}

func TestANewJobHasNothingOfTheLastOne(t *testing.T) {
	w := workers()
	for place := range 4 {
		id := int64(place) + 1
		for _, c := range []struct {
			said           impl.Command
			job, x, y, has int64
		}{
			{said(0, impl.DoMove, id, 7, 8), impl.DoMove, 7, 8, 0},
			{said(0, impl.DoMove, id, 0, 0), impl.DoMove, 0, 0, 0},
			{said(0, impl.DoMove, id, 11, 0), impl.DoMove, 11, 0, 0},
			{said(0, impl.DoMove, id, 0, 11), impl.DoMove, 0, 11, 0},
			{said(0, impl.DoMove, id, 3, 4), impl.DoMove, 3, 4, 0},
			{said(0, impl.DoHarvest, id, 0), impl.DoHarvest, 0, 0, 0},
			{said(0, impl.DoHarvest, id, 2), impl.DoHarvest, 0, 0, 2},
			{said(0, impl.DoAttack, id, 6), impl.DoAttack, 0, 0, 6},
			{said(0, impl.DoAttack, id, 99), impl.DoAttack, 0, 0, 99},
		} {
			wantDone(t, w, c.said, heardAt(w, 0, func(w *impl.World) {
				u := &w.Board.Units[place]
				u.Job, u.ToX, u.ToY, u.Prey = c.job, c.x, c.y, c.has
			}))
		}
	}
}

func TestASaidJobIsDoneByTime(t *testing.T) {
	w := impl.NewWorld().World
	w.Board.Units = []impl.Unit{{Id: 1, Owner: 0, Life: 9}, {Id: 2, Owner: 1, X: 2, Life: 7, Carry: 6}}
	w.Board.Fields = []impl.Field{{X: 1, Left: 7}}
	w = impl.TakeSeat(w, 3, 0, 2047).World
	w = impl.DoCommand(w, said(3, impl.DoHarvest, 1, 0)).World
	for i, want := range []struct{ x, carry, left, purse int64 }{{1, 0, 7, 0}, {1, 5, 2, 0}, {1, 7, 0, 0}, {0, 7, 0, 0}, {0, 0, 0, 7}} {
		w = impl.TickWorld(w).World
		u := w.Board.Units[0]
		if u.X != want.x || u.Carry != want.carry || w.Board.Fields[0].Left != want.left || w.Factions[0].Purse != want.purse || w.Tick != int64(i)+1 {
			t.Fatalf("tick %d: %+v", i, w)
		}
	}
	w.Seats[0].Last = 0
	w = impl.DoCommand(w, said(3, impl.DoAttack, 1, 2)).World
	w = impl.TickWorld(impl.TickWorld(w).World).World
	if len(w.Board.Units) != 1 || w.Spent != 6 || w.Tick != 7 || w.Board.Units[0].Job != impl.DoAttack {
		t.Errorf("attacked: %+v", w)
	}
}

func TestTheLastIsTheSeqOfWhoSpeaksAlone(t *testing.T) {
	for _, c := range append(goodSayings(), said(0, impl.DoAttack, 2, 8)) {
		w := worldFor(c.Kind)
		for _, seq := range []int64{42, 43, 500, 998, 999} {
			c.Seq = seq
			got := impl.DoCommand(w, c)
			if got.Code != impl.OK {
				t.Fatalf("DoCommand(%+v): %+v", c, got)
			}
			stays := c.Kind != impl.DoSurrender && c.Kind != impl.DoLeave
			if seat := impl.SeatOf(got.World, 0); stays && seat.Seat != (impl.Seat{Client: 0, Faction: 0, Mask: 2047, Last: seq}) {
				t.Errorf("DoCommand(%+v): the seat is %+v", c, seat)
			}
			for i, want := range []int64{7, 0, 998, 500} {
				client := int64(i) + 1
				goes := c.Kind == impl.DoSurrender && client == 1
				if seat := impl.SeatOf(got.World, client); (seat.Code == impl.ErrNone) != goes || !goes && seat.Seat.Last != want {
					t.Errorf("DoCommand(%+v): the seat of %d is %+v", c, client, seat)
				}
			}
		}
	}
}

func TestASeatThatGoesWithItsDeed(t *testing.T) {
	w := gateWorld()
	heirs := turned(allied(), func(w *impl.World) { w.Factions[1].Purse = 999900 })
	alone := turned(heirs, func(w *impl.World) { w.Seats = w.Seats[1:] })
	gone := func(w *impl.World) {
		// The only heir takes 100 of 500; of the units it gets both.
		w.Spent, w.Factions[0], w.Factions[1] = 440, impl.Faction{Gone: true}, impl.Faction{Purse: 1000000, Allies: 4}
		w.Seats, w.Offers = slices.DeleteFunc(w.Seats, func(s impl.Seat) bool { return s.Faction == 0 }), nil
		w.Board.Units[0].Owner = 1
		w.Board.Units[1] = impl.Unit{Id: 4, Owner: 1, X: 11, Y: 11, Life: 9, Carry: 3}
	}
	for _, c := range []struct {
		about string
		w     impl.World
		said  impl.Command
		turn  func(w *impl.World)
	}{
		{"a surrender", heirs, said(0, impl.DoSurrender), gone},
		{"a seat that is not the last one", w, said(0, impl.DoLeave), func(w *impl.World) { w.Seats = w.Seats[1:] }},
		{"the other one", w, said(1, impl.DoLeave), func(w *impl.World) { w.Seats = slices.Delete(w.Seats, 1, 2) }},
		{"one between", w, said(2, impl.DoLeave), func(w *impl.World) { w.Seats = slices.Delete(w.Seats, 2, 3) }},
		{"the last one", alone, said(1, impl.DoLeave), gone},
	} {
		now := wantDone(t, c.w, c.said, turned(c.w, c.turn))
		if got := impl.SeatOf(now, c.said.Client); got != (impl.SeatResult{Code: impl.ErrNone}) {
			t.Errorf("%s: the seat is there still: %+v", c.about, got)
		}
		wantNotDone(t, now, c.said, impl.ErrNone)
		if impl.TotalOf(now) != impl.TotalOf(c.w) || impl.WorldFault(now) != impl.OK {
			t.Errorf("%s: a fault, or another total: %+v", c.about, now)
		}
	}
	// Who takes a seat again begins at 0 again.
	left := impl.DoCommand(w, said(0, impl.DoLeave)).World
	back := impl.TakeSeat(left, 0, 1, 5).World
	wantSeat(t, "a seat again", impl.SeatOf(back, 0), impl.SeatResult{Seat: impl.Seat{Client: 0, Faction: 1, Mask: 5}})
	wantDone(t, back, said(0, impl.DoLeave), left)
}

func TestACommandIsDoneOnce(t *testing.T) {
	for _, c := range goodSayings() {
		c.Seq = 100
		w := worldFor(c.Kind)
		done := impl.DoCommand(w, c)
		code := int64(impl.ErrTaken)
		if c.Kind == impl.DoSurrender || c.Kind == impl.DoLeave {
			code = impl.ErrNone
		}
		wantNotDone(t, done.World, c, code)
		c.Seq = 99
		wantNotDone(t, done.World, c, code)
		if done.Code != impl.OK || code == impl.ErrNone {
			continue
		}
		// With the next Seq it is asked again.
		c.Seq = 101
		want := doByHand(done.World, c)
		wantWorld(t, fmt.Sprintf("again: DoCommand(%+v)", c), asWorld(impl.DoCommand(done.World, c)), asWorld(want))
	}
	twice := impl.DoAll(gateWorld(), []impl.Command{said(0, impl.DoTribute, 1, 7), said(0, impl.DoTribute, 1, 7)})
	if !slices.Equal(twice.Codes, []int64{impl.OK, impl.ErrTaken}) || twice.World.Factions[1].Purse != 27 || twice.World.Factions[0].Purse != 493 {
		t.Errorf("twice: %+v", twice)
	}
}

// refusedCommands are such that gateWorld tells each code that a command can be told.
func refusedCommands() map[int64][]impl.Command {
	last := said(0, impl.DoMove, 2, 5, 6)
	last.Seq = 41
	return map[int64][]impl.Command{
		impl.ErrForm:  {said(0, impl.DoLeave, 1), said(5, impl.DoOffer, 1, 1), said(0, impl.DoOffer, 0), said(0, impl.DoGift, 2, 0), said(0, impl.DoTribute, 0, 1)},
		impl.ErrRange: {{}, said(6, impl.DoLeave), said(0, 12), said(0, impl.DoMove, 2, 12, 0), said(0, impl.DoHarvest, 2, 3), said(0, impl.DoAttack, 2, 2), said(0, impl.DoMask, 1, 2048), said(0, impl.DoTribute, 1, 0), said(0, impl.DoBreak, 4)},
		impl.ErrNone:  {said(5, impl.DoLeave), said(5, impl.DoMove, 2, 5, 6), said(0, impl.DoMove, 3, 5, 6), said(0, impl.DoGift, 7, 1), said(0, impl.DoMask, 5, 1), said(0, impl.DoAccept, 2), said(0, impl.DoBreak, 1)},
		impl.ErrTaken: {last, said(0, impl.DoOffer, 2), said(2, impl.DoOffer, 0)},
		impl.ErrState: {said(0, impl.DoOffer, 3), said(0, impl.DoAccept, 3), said(0, impl.DoBreak, 3), said(0, impl.DoTribute, 3, 1), said(0, impl.DoGift, 2, 3)},
		impl.ErrRight: {said(1, impl.DoMove, 2, 5, 6), said(0, impl.DoMove, 6, 5, 6), said(0, impl.DoHarvest, 8, 1), said(0, impl.DoAttack, 99, 2), said(0, impl.DoGift, 6, 2), said(0, impl.DoMask, 0, 1), said(0, impl.DoMask, 2, 1), said(1, impl.DoSurrender), said(4, impl.DoTribute, 0, 1)},
		impl.ErrPoor:  {said(0, impl.DoTribute, 1, 501), said(2, impl.DoTribute, 0, 21)},
	}
}

func TestWhatMayNotBeSaidIsNotDone(t *testing.T) {
	w := gateWorld()
	for code, commands := range refusedCommands() {
		for _, c := range commands {
			wantNotDone(t, w, c, code)
			wantAll(t, fmt.Sprintf("alone: %+v", c), impl.DoAll(w, []impl.Command{c}), impl.DeedsResult{Codes: []int64{code}, World: w})
		}
	}
	rich := turned(w, func(w *impl.World) { w.Factions[2].Purse, w.Spent = 1000000, 99999501 })
	for _, c := range []impl.Command{said(0, impl.DoTribute, 2, 1), said(0, impl.DoSurrender), said(3, impl.DoSurrender), said(3, impl.DoLeave)} {
		wantNotDone(t, rich, c, impl.ErrFull)
	}
	wantDone(t, rich, said(0, impl.DoLeave), turned(rich, func(w *impl.World) { w.Seats = w.Seats[1:] }))
	for _, end := range []int64{math.MinInt64, math.MaxInt64} {
		for kind := int64(0); kind <= 12; kind++ {
			wantNotDone(t, w, said(end, kind, 2, 5, 6), impl.ErrRange)
			wantNotDone(t, w, impl.Command{Client: 0, Seq: end, Kind: kind}, impl.ErrRange)
		}
		wantNotDone(t, w, said(0, end), impl.ErrRange)
		wantNotDone(t, w, said(0, impl.DoMove, end, 5, 6), impl.ErrRange)
		wantNotDone(t, w, said(0, impl.DoTribute, 1, end), impl.ErrRange)
		wantNotDone(t, w, said(0, impl.DoTribute, 1, 1, end), impl.ErrForm)
	}
}

func TestDeedsAskInOrder(t *testing.T) {
	w := gateWorld()
	early := func(c impl.Command) impl.Command {
		c.Seq = 1
		return c
	}
	for _, c := range []struct {
		about string
		said  impl.Command
		code  int64
	}{
		{"the command's range, ahead of its form", said(6, impl.DoLeave, 1), impl.ErrRange},
		{"its form, ahead of its params", said(0, impl.DoOffer, 1000001, 1), impl.ErrForm},
		{"its params, ahead of no seat", said(5, impl.DoMove, 1000001), impl.ErrRange},
		{"no seat, ahead of no unit", said(5, impl.DoMove, 3, 12, 0), impl.ErrNone},
		{"a Seq, ahead of a right", early(said(1, impl.DoMove, 2, 5, 6)), impl.ErrTaken},
		{"a right, ahead of no unit", said(1, impl.DoMove, 3, 5, 6), impl.ErrRight},
		{"no unit, ahead of a tile", said(0, impl.DoMove, 3, 12, 0), impl.ErrNone},
		{"another's unit, ahead of a tile", said(0, impl.DoMove, 6, 12, 0), impl.ErrRight},
		{"another's unit, ahead of who is Gone", said(0, impl.DoGift, 6, 3), impl.ErrRight},
		{"no side, ahead of who is poor", said(0, impl.DoTribute, 4, 501), impl.ErrRange},
		{"one's own side, ahead of who is poor", said(0, impl.DoTribute, 0, 501), impl.ErrForm},
		{"who is Gone, ahead of who is poor", said(0, impl.DoTribute, 3, 501), impl.ErrState},
		{"who is poor, ahead of who is full", said(0, impl.DoTribute, 2, 1000000), impl.ErrPoor},
	} {
		t.Run(c.about, func(t *testing.T) {
			wantNotDone(t, w, c.said, c.code)
			spoiled := turned(w, func(w *impl.World) { w.Factions = w.Factions[:3] })
			wantNotDone(t, spoiled, c.said, impl.ErrMany)
		})
	}
}

func TestAFaultIsAheadOfAllDeeds(t *testing.T) {
	commands := append(goodSayings(), impl.Command{}, said(5, impl.DoLeave), said(0, impl.DoLeave, 1))
	for _, w := range append(faultyWorlds(), turned(gateWorld(), func(w *impl.World) { w.Tick, w.Seats[0].Last = 10000, 1000 })) {
		code := worldFaultByHand(w)
		if code == impl.OK {
			t.Fatalf("no fault: %+v", w)
		}
		for _, c := range commands {
			wantNotDone(t, w, c, code)
		}
		for _, n := range []int{0, 1, 20, 21, 1000} {
			wantAll(t, fmt.Sprint(n, " commands"), impl.DoAll(w, make([]impl.Command, n)), impl.DeedsResult{Code: code})
		}
		wantNoWorld(t, "TickWorld", impl.TickWorld(w), code)
		wantInt(t, "WinnerOf", impl.WinnerOf(w), code, 0)
		if got := impl.RoomsOf(w); !reflect.DeepEqual(got, impl.IntsResult{Code: code}) {
			t.Errorf("RoomsOf(%+v): %+v", w, got)
		}
	}
}

// sayingWorlds have no fault; who has a seat may say most kinds, and has not said much.
func sayingWorlds(n int) []impl.World {
	d := dice(41)
	worlds := append(mendedWorlds(n), gateWorld(), allied(), threeHeirs(), workers())
	for _, w := range worlds {
		for i := range w.Seats {
			w.Seats[i].Mask |= d.pick(0, 2047, 2047, 2047)
			w.Seats[i].Last = d.pick(0, 1, 299, 300, 998, w.Seats[i].Last)
		}
	}
	return worlds
}

func TestDeedsOfManyWorlds(t *testing.T) {
	d := dice(43)
	met := map[int64]map[int64]bool{}
	for i, w := range append(sayingWorlds(250), faultyWorlds()...) {
		was := copyOfWorld(w)
		for range 150 {
			c := d.saying()
			if d.roll(2) == 0 {
				c = d.fitting(w)
			}
			got, want := impl.DoCommand(w, c), doByHand(w, c)
			if met[c.Kind] == nil {
				met[c.Kind] = map[int64]bool{}
			}
			met[c.Kind][want.Code] = true
			if code := impl.Authorise(w, c); got.Code != code {
				t.Errorf("DoCommand(%+v): code %d, Authorise tells %d", c, got.Code, code)
			}
			call := fmt.Sprintf("DoCommand(world %d, %+v)", i, c)
			if want.Code != impl.OK {
				wantNoWorld(t, call, asWorld(got), want.Code)
				continue
			}
			wantWorld(t, call, asWorld(got), asWorld(want))
			checkDeed(t, call, w, got.World, c)
		}
		if !sameByHand(fullOf(w), fullOf(was)) {
			t.Errorf("world %d was changed", i)
		}
		if t.Failed() {
			t.Fatalf("world %d is %+v", i, was)
		}
	}
	kinds := map[int64][]int64{}
	for kind := int64(1); kind <= 11; kind++ {
		kinds[kind] = []int64{impl.OK, impl.ErrNone, impl.ErrTaken}
	}
	wantMet(t, met, kinds)
}

// checkDeed asks that nothing of another side turned but for the better, that all is there still, and that it is not done again.
func checkDeed(t *testing.T, call string, was impl.World, now impl.World, c impl.Command) {
	t.Helper()
	if impl.WorldFault(now) != impl.OK || impl.TotalOf(now) != impl.TotalOf(was) || now.Tick != was.Tick {
		t.Errorf("%s: a fault, another total, or another tick", call)
	}
	speaker := was.Seats[seatByHand(was, c.Client)]
	for i, u := range was.Board.Units {
		if u != now.Board.Units[i] && u.Owner != speaker.Faction {
			t.Errorf("%s: turned a unit of %d", call, u.Owner)
		}
	}
	for side, f := range was.Factions {
		if now.Factions[side].Purse < f.Purse && int64(side) != speaker.Faction {
			t.Errorf("%s: made the purse of %d less", call, side)
		}
	}
	for _, seat := range was.Seats {
		if at := seatByHand(now, seat.Client); seat.Faction != speaker.Faction && (at < 0 || now.Seats[at] != seat) {
			t.Errorf("%s: turned the seat of %d", call, seat.Client)
		}
	}
	if !slices.Equal(was.Board.Fields, now.Board.Fields) {
		t.Errorf("%s: turned a field", call)
	}
	code := int64(impl.ErrTaken)
	if seatByHand(now, c.Client) < 0 {
		code = impl.ErrNone
	}
	if got := impl.DoCommand(now, c); got.Code != code {
		t.Errorf("%s: said again it tells %d", call, got.Code)
	}
}

// busyWorld has a unit that harvests, one that brings home, one that attacks, one that goes, and one that rests.
func busyWorld() impl.World {
	return impl.World{
		Tick:  9998,
		Spent: 30,
		Board: impl.Board{
			Units: []impl.Unit{
				{Id: 1, Owner: 0, X: 4, Y: 4, Life: 9, Carry: 2, Job: impl.DoHarvest, Prey: 1},
				{Id: 2, Owner: 1, X: 11, Y: 0, Life: 9, Carry: 20, Job: impl.DoHarvest, Prey: 1},
				{Id: 3, Owner: 2, X: 0, Y: 11, Life: 9, Carry: 6, Job: impl.DoHarvest, Prey: 0},
				{Id: 4, Owner: 3, X: 6, Y: 6, Life: 9, Job: impl.DoAttack, Prey: 5},
				{Id: 5, Owner: 1, X: 7, Y: 7, Life: 7, Carry: 13, Job: impl.DoMove, ToX: 1, ToY: 1},
				{Id: 6, Owner: 3, X: 8, Y: 1, Life: 9, Carry: 1, Job: impl.DoMove, ToX: 9, ToY: 3},
				{Id: 7, Owner: 0, Life: 9, Carry: 8},
				{Id: 8, Owner: impl.Nobody, X: 5, Y: 5, Life: 9, Carry: 3, Job: impl.DoMove, ToX: 1, ToY: 1},
			},
			Fields: []impl.Field{{X: 1, Y: 2}, {X: 4, Y: 4, Left: 40}},
		},
		Factions: []impl.Faction{{Purse: 10, Allies: 2}, {Purse: 999993, Allies: 1}, {Purse: 400}, {}},
		Seats:    seatsOf(4),
		Offers:   []impl.Offer{{From: 2, To: 3}},
	}
}

func TestTimeOfABusyWorld(t *testing.T) {
	w := busyWorld()
	want := turned(w, func(w *impl.World) {
		w.Tick, w.Spent = 9999, 43
		u := w.Board.Units
		u[0].Carry, w.Board.Fields[1].Left = 7, 35
		u[1].Carry, w.Factions[1].Purse = 13, 1000000
		u[2].Carry, w.Factions[2].Purse = 0, 406
		u[5].X, u[5].Y = 9, 2
		w.Board.Units = slices.Delete(u, 4, 5)
	})
	got := impl.TickWorld(w)
	wantWorld(t, "a tick", got, impl.WorldResult{World: want})
	wantWorld(t, "by hand", timeByHand(w), impl.WorldResult{World: want})
	if impl.TotalOf(got.World) != impl.TotalOf(w) {
		t.Error("another total", got.World)
	}
	wantNoWorld(t, "the last tick", impl.TickWorld(got.World), impl.ErrFull)
	ticked := impl.TickBoard(w.Board, impl.RoomsOf(w).List)
	wantInts(t, "gains", impl.IntsResult{List: ticked.Gains}, impl.OK, 0, 7, 6, 0)
	if ticked.Lost != 13 || !sameLists(ticked.Board, got.World.Board) {
		t.Errorf("TickBoard: %+v", ticked)
	}
}

func TestTheLastTick(t *testing.T) {
	for _, w := range []impl.World{impl.NewWorld().World, busyWorld(), gateWorld(), goodWorlds()[5]} {
		for _, tick := range []int64{0, 1, 5000, 9997, 9998} {
			w.Tick = tick
			got := impl.TickWorld(w)
			if got.Code != impl.OK || got.World.Tick != tick+1 {
				t.Errorf("tick %d: %+v", tick, got)
			}
		}
		w.Tick = 9999
		wantNoWorld(t, "tick 9999", impl.TickWorld(w), impl.ErrFull)
		for _, tick := range outside(0, 9999) {
			w.Tick = tick
			wantNoWorld(t, "no tick", impl.TickWorld(w), impl.ErrRange)
		}
	}
}

func TestHowMuchMayBeLost(t *testing.T) {
	for _, c := range []struct{ spent, carry, code int64 }{
		{99999987, 13, impl.OK},
		{99999988, 13, impl.ErrFull},
		{100000000, 13, impl.ErrFull},
		{100000000, 0, impl.OK},
		{99999999, 1, impl.OK},
		{99999981, 20, impl.ErrFull},
		{99999980, 20, impl.OK},
	} {
		w := turned(busyWorld(), func(w *impl.World) { w.Spent, w.Board.Units[4].Carry = c.spent, c.carry })
		got := impl.TickWorld(w)
		if c.code != impl.OK {
			wantNoWorld(t, fmt.Sprintf("%+v", c), got, c.code)
			continue
		}
		wantWorld(t, fmt.Sprintf("%+v", c), got, timeByHand(w))
		if got.World.Spent != c.spent+c.carry {
			t.Errorf("%+v: Spent is %d", c, got.World.Spent)
		}
	}
}

func TestPursesWithoutRoomAreNotTurnedByTime(t *testing.T) {
	for _, c := range []struct{ purse, gain int64 }{{0, 20}, {999979, 20}, {999980, 20}, {999981, 19}, {999999, 1}, {1000000, 0}} {
		w := turned(busyWorld(), func(w *impl.World) { w.Factions[1].Purse = c.purse })
		wantInts(t, "rooms", impl.RoomsOf(w), impl.OK, 999990, 1000000-c.purse, 999600, 1000000)
		now := impl.TickWorld(w).World
		wantPurses(t, fmt.Sprintf("%+v", c), now, 10, c.purse+c.gain, 406, 0)
		if now.Board.Units[1].Carry != 20-c.gain {
			t.Errorf("%+v: it carries %d", c, now.Board.Units[1].Carry)
		}
	}
}

func TestTimeTurnsNothingElse(t *testing.T) {
	for _, w := range []impl.World{midWorld(), goneWorld(), gateWorld(), allied(), busyWorld()} {
		now := impl.TickWorld(w).World
		for i, f := range w.Factions {
			if g := now.Factions[i]; g.Gone != f.Gone || g.Allies != f.Allies || g.Purse < f.Purse {
				t.Errorf("side %d: %+v, was %+v", i, g, f)
			}
		}
		if !slices.Equal(now.Seats, w.Seats) || !slices.Equal(now.Offers, w.Offers) {
			t.Errorf("seats or offers turned: %+v", now)
		}
	}
}

func TestTimeOfManyWorlds(t *testing.T) {
	codes := map[int64]int{}
	for i, w := range append(append(mendedWorlds(3000), faultyWorlds()...), someWorlds(300)...) {
		was := copyOfWorld(w)
		call := fmt.Sprintf("TickWorld(world %d: %+v)", i, was)
		for range 5 {
			got, want := impl.TickWorld(w), timeByHand(w)
			codes[want.Code]++
			if !sameByHand(fullOf(w), fullOf(was)) {
				t.Fatalf("%s: changed", call)
			}
			if want.Code != impl.OK {
				wantNoWorld(t, call, got, want.Code)
				break
			}
			wantWorld(t, call, got, want)
			if impl.WorldFault(got.World) != impl.OK || impl.TotalOf(got.World) != impl.TotalOf(w) {
				t.Errorf("%s: a fault, or another total", call)
			}
			w, was = got.World, copyOfWorld(got.World)
		}
		if t.Failed() {
			t.FailNow()
		}
	}
	if codes[impl.OK] < 3000 || codes[impl.ErrFull] < 500 || codes[impl.ErrForm] < 5 || codes[impl.ErrRange] < 5 || codes[impl.ErrMany] < 2 {
		t.Error("too few of one code", codes)
	}
}

func TestTimeIsTheTicksOfTheBoard(t *testing.T) {
	for _, w := range append(mendedWorlds(200), gateWorld(), busyWorld(), workers()) {
		w.Tick, w.Spent = 9979, 7
		now := w
		for n := int64(1); n <= 20; n++ {
			now = impl.TickWorld(now).World
			want := impl.TickMany(w.Board, impl.RoomsOf(w).List, n)
			if want.Code != impl.OK || !sameLists(now.Board, want.Board) || now.Spent != 7+want.Lost || now.Tick != 9979+n {
				t.Fatalf("after %d: %+v, want %+v", n, now, want)
			}
			for side, gain := range want.Gains {
				if now.Factions[side].Purse != w.Factions[side].Purse+gain {
					t.Fatalf("after %d: %+v, want gains %v", n, now, want.Gains)
				}
			}
		}
		wantNoWorld(t, "no time is left", impl.TickWorld(now), impl.ErrFull)
	}
}

// fitting is of one who has a seat, and of units that are there, where the world has some.
func (d *dice) fitting(w impl.World) impl.Command {
	c := d.saying()
	if len(w.Seats) > 0 {
		c.Client = w.Seats[d.roll(int64(len(w.Seats)))].Client
	}
	if len(w.Board.Units) == 0 {
		return c
	}
	id := func() int64 { return w.Board.Units[d.roll(int64(len(w.Board.Units)))].Id }
	switch c.Kind {
	case impl.DoMove, impl.DoHarvest, impl.DoGift:
		c.A = id()
	case impl.DoAttack:
		c.A, c.B = id(), id()
	}
	return c
}

// sayings are n commands that rise by Seq, but for some of them.
func (d *dice) sayings(w impl.World, n int64) []impl.Command {
	var list []impl.Command
	for i := range n {
		c := d.fitting(w)
		// Who leaves says nothing any more, so that few of a list should.
		if c.Kind == impl.DoSurrender || c.Kind == impl.DoLeave {
			c = d.fitting(w)
		}
		c.Seq = 300 + 3*i + d.pick(0, 0, 0, 0, 1, -3)
		list = append(list, c)
	}
	return list
}

func TestACodeBetweenTwoWithoutOne(t *testing.T) {
	w := gateWorld()
	at := func(seq int64, c impl.Command) impl.Command {
		c.Seq = seq
		return c
	}
	first, last := at(50, said(0, impl.DoTribute, 2, 4)), at(60, said(0, impl.DoMove, 2, 5, 6))
	for code, commands := range refusedCommands() {
		for _, c := range commands {
			if c.Client == 0 && c.Seq == 999 {
				c.Seq = 55
			}
			got := impl.DoAll(w, []impl.Command{first, c, last})
			want := turned(w, func(w *impl.World) {
				w.Factions[0].Purse, w.Factions[2].Purse, w.Seats[0].Last = 496, 999004, 60
				w.Board.Units[0].Job, w.Board.Units[0].ToX, w.Board.Units[0].ToY = impl.DoMove, 5, 6
			})
			wantAll(t, fmt.Sprintf("between: %+v", c), got, impl.DeedsResult{Codes: []int64{impl.OK, code, impl.OK}, World: want})
		}
	}
	list := []impl.Command{
		at(1, said(0, impl.DoLeave)), at(42, said(0, impl.DoMask, 1, 2047)), at(8, said(1, impl.DoMask, 0, 1)),
		at(43, said(0, impl.DoTribute, 1, 1)), at(43, said(0, impl.DoMove, 2, 3, 3)), at(44, said(0, impl.DoLeave)),
		at(45, said(0, impl.DoMove, 2, 4, 4)), at(9, said(1, impl.DoTribute, 1, 500)), at(10, said(1, impl.DoLeave)), at(11, said(1, impl.DoLeave)),
	}
	codes := []int64{impl.ErrTaken, impl.OK, impl.OK, impl.ErrRight, impl.OK, impl.OK, impl.ErrNone, impl.OK, impl.OK, impl.ErrNone}
	want := turned(w, func(w *impl.World) {
		w.Factions[0], w.Factions[1].Purse = impl.Faction{Gone: true}, 520
		w.Seats, w.Offers = w.Seats[2:], nil
		w.Board.Units[0].Owner = impl.Nobody
		w.Board.Units[1] = impl.Unit{Id: 4, Owner: impl.Nobody, X: 11, Y: 11, Life: 9, Carry: 3}
	})
	wantAll(t, "all of one side", impl.DoAll(w, list), impl.DeedsResult{Codes: codes, World: want})
}

func TestHowManyCommandsMayBeDone(t *testing.T) {
	w := gateWorld()
	var list []impl.Command
	for i := range int64(22) {
		list = append(list, impl.Command{Client: 0, Seq: 100 + i, Kind: impl.DoTribute, A: 1, B: 1})
	}
	for n := range 23 {
		got := impl.DoAll(w, list[:n])
		want := impl.DeedsResult{Code: impl.ErrMany}
		if n <= 20 {
			want = impl.DeedsResult{Codes: make([]int64, n), World: turned(w, func(w *impl.World) {
				w.Factions[0].Purse, w.Factions[1].Purse = 500-int64(n), 20+int64(n)
				if n > 0 {
					w.Seats[0].Last = 99 + int64(n)
				}
			})}
		}
		wantAll(t, fmt.Sprint(n, " commands"), got, want)
	}
	// Too many are told ahead of what is none.
	for _, n := range []int{21, 22, 1000} {
		wantAll(t, fmt.Sprint(n, " commands that are none"), impl.DoAll(w, make([]impl.Command, n)), impl.DeedsResult{Code: impl.ErrMany})
	}
	none := make([]int64, 20)
	for i := range none {
		none[i] = impl.ErrRange
	}
	wantAll(t, "20 commands that are none", impl.DoAll(w, make([]impl.Command, 20)), impl.DeedsResult{Codes: none, World: w})
	for _, w := range goodWorlds() {
		for _, list := range [][]impl.Command{nil, {}, list[:0]} {
			wantAll(t, "none", impl.DoAll(w, list), impl.DeedsResult{World: w})
		}
	}
}

func TestAllAtOnceInPartsAndOneByOne(t *testing.T) {
	d := dice(47)
	done := map[int64]int{}
	for i, w := range sayingWorlds(3000) {
		list := d.sayings(w, d.pick(0, 1, 2, 7, 19, 20, 20, 20))
		kept, was := slices.Clone(list), copyOfWorld(w)
		call := fmt.Sprintf("DoAll(world %d, %+v)", i, list)
		got := impl.DoAll(w, list)
		wantAll(t, call, got, allByHand(w, list))
		if impl.WorldFault(got.World) != impl.OK || impl.TotalOf(got.World) != impl.TotalOf(w) {
			t.Errorf("%s: a fault, or another total", call)
		}
		for cut := range len(list) + 1 {
			ahead := impl.DoAll(w, list[:cut])
			behind := impl.DoAll(ahead.World, list[cut:])
			behind.Codes = slices.Concat(ahead.Codes, behind.Codes)
			wantAll(t, fmt.Sprint(call, " cut at ", cut), behind, got)
		}
		one := w
		for j, c := range list {
			next := impl.DoCommand(one, c)
			if next.Code != got.Codes[j] {
				t.Errorf("%s: command %d tells %d alone", call, j, next.Code)
			}
			if next.Code == impl.OK {
				one = next.World
				done[c.Kind]++
			}
		}
		if !sameByHand(one, got.World) {
			t.Errorf("%s: one by one %+v", call, one)
		}
		if !slices.Equal(list, kept) || !sameByHand(fullOf(w), fullOf(was)) {
			t.Errorf("%s: changed", call)
		}
		if t.Failed() {
			t.Fatalf("world %d is %+v", i, was)
		}
	}
	for kind := int64(1); kind <= 11; kind++ {
		if done[kind] < 30 {
			t.Errorf("kind %d: too few are done: %v", kind, done)
		}
	}
}

func TestAllOfTheLeastAndTheGreatest(t *testing.T) {
	least, greatest := int64(math.MinInt64), int64(math.MaxInt64)
	list := []impl.Command{
		{Client: least, Seq: least, Kind: least, A: least, B: least, C: least},
		{Client: greatest, Seq: greatest, Kind: greatest, A: greatest, B: greatest, C: greatest},
		said(0, impl.DoMove, greatest, least, greatest),
		said(0, impl.DoLeave, least),
	}
	w := gateWorld()
	wantAll(t, "ends", impl.DoAll(w, list), impl.DeedsResult{Codes: []int64{impl.ErrRange, impl.ErrRange, impl.ErrRange, impl.ErrForm}, World: w})
}

func TestRoomsOf(t *testing.T) {
	wantInts(t, "all there is", impl.RoomsOf(impl.NewWorld().World), impl.OK, 1000000, 1000000, 1000000, 1000000)
	wantInts(t, "some", impl.RoomsOf(midWorld()), impl.OK, 999000, 980000, 700000, 999993)
	wantInts(t, "of one who is Gone, too", impl.RoomsOf(gateWorld()), impl.OK, 999500, 999980, 1000, 999999)
	wantInts(t, "none", impl.RoomsOf(goodWorlds()[3]), impl.OK, 0, 0, 0, 0)
	for side := range 4 {
		for _, purse := range []int64{0, 1, 999999, 1000000} {
			w := turned(impl.NewWorld().World, func(w *impl.World) { w.Factions[side].Purse = purse })
			want := []int64{1000000, 1000000, 1000000, 1000000}
			want[side] -= purse
			wantInts(t, fmt.Sprint("side ", side, " with ", purse), impl.RoomsOf(w), impl.OK, want...)
		}
	}
	for _, w := range mendedWorlds(300) {
		got := impl.RoomsOf(w)
		wantInts(t, fmt.Sprintf("RoomsOf(%+v)", w), got, impl.OK, roomsByHand(w)...)
		if totalOf(got.List)+impl.PursesOf(w).Value != 4000000 {
			t.Errorf("RoomsOf(%+v): %v", w, got)
		}
	}
}

func TestWinnerOf(t *testing.T) {
	for gone := range int64(16) {
		w := impl.NewWorld().World
		for side := range int64(4) {
			w.Factions[side].Gone = bitByHand(gone, side)
		}
		want, one := map[int64]int64{14: 0, 13: 1, 11: 2, 7: 3}[gone]
		if one {
			wantInt(t, fmt.Sprint("gone ", gone), impl.WinnerOf(w), impl.OK, want)
		} else {
			wantInt(t, fmt.Sprint("gone ", gone), impl.WinnerOf(w), impl.ErrNone, 0)
		}
	}
	w := midWorld()
	for i, side := range []int64{2, 0, 3} {
		wantInt(t, "more than one", impl.WinnerOf(w), impl.ErrNone, 0)
		if w = impl.LeaveSide(w, side).World; w.Factions[side].Gone == false {
			t.Fatal("side", side, "after", i)
		}
	}
	wantInt(t, "the one that is left", impl.WinnerOf(w), impl.OK, 1)
	wantInt(t, "nobody is left", impl.WinnerOf(impl.LeaveSide(w, 1).World), impl.ErrNone, 0)
	for _, w := range append(append(mendedWorlds(1000), faultyWorlds()...), someWorlds(100)...) {
		want := winnerByHand(w)
		wantInt(t, fmt.Sprintf("WinnerOf(%+v)", w), impl.WinnerOf(w), want.Code, want.Value)
	}
}

// deedAnswers are those of all functions of deeds, for one world.
func deedAnswers(w impl.World, list []impl.Command) []any {
	answers := []any{impl.TickWorld(w), impl.RoomsOf(w), impl.WinnerOf(w), impl.DoAll(w, nil), impl.DoAll(w, list), impl.DoAll(w, append(list, list...))}
	for _, c := range list {
		answers = append(answers, impl.DoCommand(w, c))
	}
	return answers
}

// manySayings are of all kinds, with and without a code in gateWorld.
func manySayings() []impl.Command {
	return append(goodSayings(), impl.Command{}, said(5, impl.DoLeave), said(1, impl.DoMove, 2, 12, 12), said(2, impl.DoMask, 4, 5), said(3, impl.DoSurrender), said(2, impl.DoBreak, 2))
}

func TestAnswersOfDeedsHangOnArgumentsAlone(t *testing.T) {
	list := manySayings()
	kept := slices.Clone(list)
	worlds := append(append(sayingWorlds(60), faultyWorlds()...), busyWorld())
	checkArgumentsAlone(t, worlds, func(w impl.World) []any { return deedAnswers(w, list[:len(list):len(list)]) })
	if !slices.Equal(list, kept) {
		t.Error("the list was changed", list)
	}
}

// worldsDone tells the worlds of DoAll, and asks that its Codes are a list of its own.
func worldsDone(t *testing.T, w impl.World, list []impl.Command) impl.WorldResult {
	t.Helper()
	mine := slices.Clone(list)
	first, second := impl.DoAll(w, mine), impl.DoAll(w, mine)
	codes, kept := slices.Clone(second.Codes), copyOfWorld(second.World)
	spoilNumbers(first.Codes)
	clear(mine)
	if !slices.Equal(second.Codes, codes) || !sameByHand(first.World, kept) || !sameByHand(second.World, kept) {
		t.Fatalf("Codes share memory: %+v", second)
	}
	spoilWorld(first.World)
	if !slices.Equal(second.Codes, codes) {
		t.Fatalf("Codes share memory with a world: %+v", second)
	}
	return impl.WorldResult{Code: second.Code, World: second.World}
}

func TestAnswersOfDeedsAreNewMemory(t *testing.T) {
	refused := []impl.Command{{}, said(5, impl.DoMove, 2, 5, 6)}
	for _, w := range append(sayingWorlds(60), busyWorld()) {
		checkNewWorld(t, w, impl.TickWorld)
		checkNewNumbers(t, w, impl.RoomsOf)
		for _, c := range manySayings() {
			checkNewWorld(t, w, func(w impl.World) impl.WorldResult { return asWorld(impl.DoCommand(w, c)) })
		}
		// Also where nothing is done, the world that is told is a new one.
		for _, list := range [][]impl.Command{nil, refused, manySayings()} {
			checkNewWorld(t, w, func(w impl.World) impl.WorldResult { return worldsDone(t, w, list) })
		}
	}
}

// listsOf are the lists of a world, each in a world of its own.
func listsOf(w impl.World) []impl.World {
	return []impl.World{
		{Board: impl.Board{Units: w.Board.Units}}, {Board: impl.Board{Fields: w.Board.Fields}},
		{Factions: w.Factions}, {Seats: w.Seats}, {Offers: w.Offers},
	}
}

// checkListsApart spoils the lists of an answer one by one, and asks that no list behind turns.
func checkListsApart(t *testing.T, answer impl.World) {
	t.Helper()
	lists, was := listsOf(answer), listsOf(copyOfWorld(answer))
	for i := range lists {
		spoilWorld(lists[i])
		for j := i + 1; j < len(lists); j++ {
			if !sameByHand(fullOf(lists[j]), fullOf(was[j])) {
				t.Fatalf("lists %d and %d share memory: %+v", i, j, answer)
			}
		}
	}
}

func TestListsOfADeedAreApart(t *testing.T) {
	for _, w := range append(sayingWorlds(30), busyWorld()) {
		answers := []impl.World{impl.TickWorld(w).World, impl.DoAll(w, manySayings()).World, impl.DoAll(w, nil).World}
		for _, c := range manySayings() {
			answers = append(answers, impl.DoCommand(w, c).World)
		}
		for _, answer := range answers {
			checkListsApart(t, answer)
		}
	}
}
