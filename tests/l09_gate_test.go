package tests

import (
	"fmt"
	"math"
	"slices"
	"testing"

	"loop.example/g00646/impl"
)

func authoriseByHand(w impl.World, c impl.Command) int64 {
	if code := worldFaultByHand(w); code != impl.OK {
		return code
	}
	if code := faultByHand(c); code != impl.OK {
		return code
	}
	at := seatByHand(w, c.Client)
	if at < 0 {
		return impl.ErrNone
	}
	if c.Seq <= w.Seats[at].Last {
		return impl.ErrTaken
	}
	if c.Kind != impl.DoLeave && !bitByHand(w.Seats[at].Mask, c.Kind-1) {
		return impl.ErrRight
	}
	return kindByHand(w, w.Seats[at], c)
}

func seatByHand(w impl.World, client int64) int {
	return slices.IndexFunc(w.Seats, func(s impl.Seat) bool { return s.Client == client })
}

func unitByHand(w impl.World, id int64) int {
	return slices.IndexFunc(w.Board.Units, func(u impl.Unit) bool { return u.Id == id })
}

// kindByHand is what a command tells by its kind, where its client has the right to that kind.
func kindByHand(w impl.World, seat impl.Seat, c impl.Command) int64 {
	side := seat.Faction
	switch c.Kind {
	case impl.DoMove, impl.DoHarvest, impl.DoAttack, impl.DoGift:
		return orderByHand(w, side, c)
	case impl.DoTribute:
		return tributeByHand(w, side, c.A, c.B).Code
	case impl.DoOffer:
		return offerByHand(w, side, c.A).Code
	case impl.DoAccept:
		return acceptByHand(w, side, c.A).Code
	case impl.DoBreak:
		return breakByHand(w, side, c.A).Code
	case impl.DoMask:
		return maskByHand(w, seat, c)
	case impl.DoSurrender:
		return leaveSideByHand(w, side).Code
	}
	return leaveSeatByHand(w, c.Client).Code
}

func orderByHand(w impl.World, side int64, c impl.Command) int64 {
	at := unitByHand(w, c.A)
	if at < 0 {
		return impl.ErrNone
	}
	if w.Board.Units[at].Owner != side {
		return impl.ErrRight
	}
	good := false
	switch c.Kind {
	case impl.DoMove:
		good = within(c.B, 0, 11) && within(c.C, 0, 11)
	case impl.DoHarvest:
		good = within(c.B+1, 1, int64(len(w.Board.Fields)))
	case impl.DoAttack:
		good = unitByHand(w, c.B) >= 0 && unitByHand(w, c.B) != at
	case impl.DoGift:
		return giftByHand(w, side, c.A, c.B).Code
	}
	if !good {
		return impl.ErrRange
	}
	return impl.OK
}

func maskByHand(w impl.World, seat impl.Seat, c impl.Command) int64 {
	at := seatByHand(w, c.A)
	if at < 0 {
		return impl.ErrNone
	}
	if w.Seats[at] == seat || w.Seats[at].Faction != seat.Faction {
		return impl.ErrRight
	}
	if c.B > 2047 {
		return impl.ErrRange
	}
	return impl.OK
}

func allowedByHand(w impl.World, client int64) impl.IntsResult {
	if code := worldFaultByHand(w); code != impl.OK {
		return impl.IntsResult{Code: code}
	}
	at := seatByHand(w, client)
	if at < 0 {
		return impl.IntsResult{Code: impl.ErrNone}
	}
	var kinds []int64
	for bit := range int64(11) {
		if bitByHand(w.Seats[at].Mask, bit) {
			kinds = append(kinds, bit+1)
		}
	}
	return impl.IntsResult{List: kinds}
}

// gateWorld has two clients of side 0, three of side 1 and one of side 2; 1 and 2 are allies, 3 is Gone.
func gateWorld() impl.World {
	return impl.World{
		Tick:  3,
		Spent: 40,
		Board: impl.Board{
			Units: []impl.Unit{
				{Id: 2, Owner: 0, X: 1, Y: 1, Life: 9},
				{Id: 4, Owner: 0, X: 11, Y: 11, Life: 9, Carry: 3, Job: impl.DoAttack, Prey: 6},
				{Id: 6, Owner: 1, X: 5, Y: 1, Life: 9},
				{Id: 8, Owner: impl.Nobody, X: 7, Y: 1, Life: 9},
				{Id: 99, Owner: 2, X: 9, Y: 1, Life: 9},
			},
			Fields: []impl.Field{{X: 1, Y: 2, Left: 30}, {X: 3, Y: 4}, {X: 3, Y: 4, Left: 7}},
		},
		Factions: []impl.Faction{{Purse: 500}, {Purse: 20, Allies: 4}, {Purse: 999000, Allies: 2}, {Gone: true, Purse: 1}},
		Seats: []impl.Seat{
			{Client: 0, Faction: 0, Mask: 2047, Last: 41},
			{Client: 1, Faction: 0, Mask: 0, Last: 7},
			{Client: 2, Faction: 1, Mask: 2047},
			{Client: 3, Faction: 2, Mask: 2047, Last: 998},
			{Client: 4, Faction: 1, Mask: 1 << 8, Last: 500},
		},
		Offers: []impl.Offer{{From: 1, To: 0}, {From: 0, To: 2}},
	}
}

// said is a command with a Seq that nobody of gateWorld has said, but of client 3 the last there is.
func said(client int64, kind int64, params ...int64) impl.Command {
	all := append(slices.Clone(params), 0, 0, 0)
	return impl.Command{Client: client, Seq: 999, Kind: kind, A: all[0], B: all[1], C: all[2]}
}

func wantSaid(t *testing.T, w impl.World, c impl.Command, code int64) {
	t.Helper()
	if got := impl.Authorise(w, c); got != code {
		t.Errorf("Authorise(%+v): got %d, want %d", c, got, code)
	}
	if hand := authoriseByHand(w, c); hand != code {
		t.Errorf("by hand %+v: got %d, want %d", c, hand, code)
	}
}

// goodSayings are of each kind, and client 0 of gateWorld may say them all.
func goodSayings() []impl.Command {
	return []impl.Command{
		said(0, impl.DoMove, 2, 5, 6), said(0, impl.DoHarvest, 2, 1), said(0, impl.DoAttack, 4, 6), said(0, impl.DoTribute, 1, 500),
		said(0, impl.DoGift, 4, 2), said(0, impl.DoOffer, 1), said(0, impl.DoAccept, 1), said(0, impl.DoBreak, 1),
		said(0, impl.DoMask, 1, 9), said(0, impl.DoSurrender), said(0, impl.DoLeave),
	}
}

// allied is gateWorld with 0 and 1 as allies, and without the offers between both.
func allied() impl.World {
	return turned(gateWorld(), func(w *impl.World) {
		w.Factions[0].Allies, w.Factions[1].Allies = 2, 5
		w.Offers = w.Offers[1:2:2]
	})
}

// worldFor is one in which a command of goodSayings may be said: a pact cannot be broken that is not there.
func worldFor(kind int64) impl.World {
	if kind == impl.DoBreak {
		return allied()
	}
	return gateWorld()
}

func TestEachKindByItsBitAlone(t *testing.T) {
	for i, c := range goodSayings() {
		if c.Kind != int64(i)+1 {
			t.Fatal("kind", c.Kind, "in place", i)
		}
		w := worldFor(c.Kind)
		wantSaid(t, w, c, impl.OK)
		for mask := range int64(2048) {
			w.Seats[0].Mask = mask
			want := int64(impl.OK)
			if c.Kind != impl.DoLeave && !bitByHand(mask, c.Kind-1) {
				want = impl.ErrRight
			}
			if got := impl.Authorise(w, c); got != want {
				t.Fatalf("Authorise(%+v) by mask %d: got %d, want %d", c, mask, got, want)
			}
		}
	}
}

func TestEachKindSaidByOthers(t *testing.T) {
	for _, c := range goodSayings() {
		w := worldFor(c.Kind)
		want := int64(impl.ErrRight)
		if c.Kind == impl.DoLeave {
			want = impl.OK
		}
		// The one may say nothing, and the other one turn the masks of another side alone.
		for _, client := range []int64{1, 4} {
			c.Client = client
			wantSaid(t, w, c, want)
		}
		c.Client = 5
		wantSaid(t, w, c, impl.ErrNone)
		for _, client := range outside(0, 5) {
			c.Client = client
			wantSaid(t, w, c, impl.ErrRange)
		}
	}
}

func TestSeqsAroundTheLast(t *testing.T) {
	for _, c := range goodSayings() {
		w := worldFor(c.Kind)
		for _, last := range []int64{0, 1, 2, 41, 500, 997, 998, 999} {
			w.Seats[0].Last = last
			for _, seq := range []int64{1, last - 1, last, last + 1, last + 2, 999} {
				c.Seq = seq
				switch {
				case !within(seq, 1, 999):
					wantSaid(t, w, c, impl.ErrRange)
				case seq > last:
					wantSaid(t, w, c, impl.OK)
				default:
					wantSaid(t, w, c, impl.ErrTaken)
				}
			}
		}
	}
}

func TestTheLastOfAnotherSeatIsNotAsked(t *testing.T) {
	w := gateWorld()
	w.Seats[1].Last, w.Seats[2].Last = 999, 999
	c := said(0, impl.DoMove, 2, 5, 6)
	c.Seq = 42
	wantSaid(t, w, c, impl.OK)
	c.Seq = 41
	wantSaid(t, w, c, impl.ErrTaken)
}

func TestUnitsOfOthers(t *testing.T) {
	w := gateWorld()
	for _, c := range []struct {
		client int64
		mine   []int64
	}{{0, []int64{2, 4}}, {2, []int64{6}}, {3, []int64{99}}} {
		for _, id := range []int64{2, 4, 6, 8, 99} {
			want := int64(impl.OK)
			if !slices.Contains(c.mine, id) {
				want = impl.ErrRight
			}
			// The prey is another unit than each of these, and no side is given what it has.
			prey, to := int64(2), int64(2)
			if id == 2 {
				prey = 4
			}
			if c.client == 3 {
				to = 0
			}
			wantSaid(t, w, said(c.client, impl.DoMove, id, 0, 11), want)
			wantSaid(t, w, said(c.client, impl.DoHarvest, id, 2), want)
			wantSaid(t, w, said(c.client, impl.DoAttack, id, prey), want)
			wantSaid(t, w, said(c.client, impl.DoGift, id, to), want)
		}
		for _, id := range []int64{0, 1, 3, 5, 9, 98, 100, 1000000} {
			wantSaid(t, w, said(c.client, impl.DoMove, id, 0, 11), impl.ErrNone)
			wantSaid(t, w, said(c.client, impl.DoHarvest, id, 2), impl.ErrNone)
			wantSaid(t, w, said(c.client, impl.DoAttack, id, 2), impl.ErrNone)
			wantSaid(t, w, said(c.client, impl.DoGift, id, 1), impl.ErrNone)
		}
	}
}

func TestTilesToGoTo(t *testing.T) {
	w := gateWorld()
	for x := int64(0); x <= 13; x++ {
		for y := int64(0); y <= 13; y++ {
			want := int64(impl.OK)
			if x > 11 || y > 11 {
				want = impl.ErrRange
			}
			wantSaid(t, w, said(0, impl.DoMove, 2, x, y), want)
		}
	}
	for _, far := range []int64{-1, 256, 1000000, 1000001, math.MinInt64, math.MaxInt64} {
		wantSaid(t, w, said(0, impl.DoMove, 2, far, 0), impl.ErrRange)
		wantSaid(t, w, said(0, impl.DoMove, 2, 0, far), impl.ErrRange)
	}
	wantSaid(t, w, said(0, impl.DoMove, 2, 1, 1), impl.OK)
}

func TestFieldsToHarvest(t *testing.T) {
	for count := range 5 {
		w := turned(gateWorld(), func(w *impl.World) { w.Board.Fields = goodFields()[:count] })
		for number := int64(-1); number <= 6; number++ {
			want := int64(impl.OK)
			if !within(number, 0, int64(count)-1) {
				want = impl.ErrRange
			}
			wantSaid(t, w, said(0, impl.DoHarvest, 4, number), want)
		}
		for _, number := range []int64{1000000, 1000001, math.MinInt64, math.MaxInt64} {
			wantSaid(t, w, said(0, impl.DoHarvest, 4, number), impl.ErrRange)
		}
	}
	empty := turned(gateWorld(), func(w *impl.World) { w.Board.Fields = []impl.Field{} })
	wantSaid(t, empty, said(0, impl.DoHarvest, 4, 0), impl.ErrRange)
}

func TestUnitsToAttack(t *testing.T) {
	w := gateWorld()
	for prey, code := range map[int64]int64{
		2: impl.ErrRange, 4: impl.OK, 6: impl.OK, 8: impl.OK, 99: impl.OK,
		0: impl.ErrRange, 1: impl.ErrRange, 3: impl.ErrRange, 98: impl.ErrRange, 100: impl.ErrRange, 1000000: impl.ErrRange,
		-1: impl.ErrRange, 1000001: impl.ErrRange, math.MinInt64: impl.ErrRange, math.MaxInt64: impl.ErrRange,
	} {
		wantSaid(t, w, said(0, impl.DoAttack, 2, prey), code)
	}
	wantSaid(t, w, said(0, impl.DoAttack, 4, 4), impl.ErrRange)
	wantSaid(t, w, said(0, impl.DoAttack, 4, 2), impl.OK)
	wantSaid(t, w, said(2, impl.DoAttack, 6, 6), impl.ErrRange)
}

func TestMasksOfOthers(t *testing.T) {
	w := gateWorld()
	for _, c := range []struct{ client, other, mask, code int64 }{
		{0, 1, 0, impl.OK},
		{0, 1, 1, impl.OK},
		{0, 1, 2047, impl.OK},
		{0, 1, 2048, impl.ErrRange},
		{0, 1, 2049, impl.ErrRange},
		{0, 1, 1000000, impl.ErrRange},
		{0, 1, 1000001, impl.ErrRange},
		{0, 1, -1, impl.ErrRange},
		{0, 0, 0, impl.ErrRight},
		{0, 0, 2047, impl.ErrRight},
		{0, 0, 2048, impl.ErrRight},
		{0, 2, 5, impl.ErrRight},
		{0, 3, 2048, impl.ErrRight},
		{0, 4, 2048, impl.ErrRight},
		{0, 5, 5, impl.ErrNone},
		{0, 5, 2048, impl.ErrNone},
		{0, 6, 2047, impl.ErrNone},
		{0, 1000000, 1000000, impl.ErrNone},
		{0, 1000001, 5, impl.ErrRange},
		{0, -1, 5, impl.ErrRange},
		{2, 4, 2047, impl.OK},
		{4, 2, 0, impl.OK},
		{4, 2, 2048, impl.ErrRange},
		{4, 4, 0, impl.ErrRight},
		{2, 3, 0, impl.ErrRight},
		{3, 2, 0, impl.ErrRight},
		{3, 3, 0, impl.ErrRight},
		{1, 0, 0, impl.ErrRight},
	} {
		wantSaid(t, w, said(c.client, impl.DoMask, c.other, c.mask), c.code)
	}
	// A mask that is told need not be another one.
	wantSaid(t, w, said(2, impl.DoMask, 4, 1<<8), impl.OK)
}

// heldAgainst asks that a command tells what a function tells at that world.
func heldAgainst(t *testing.T, w impl.World, c impl.Command, told int64) {
	t.Helper()
	if got := impl.Authorise(w, c); got != told {
		t.Errorf("Authorise(%+v): got %d, the function tells %d", c, got, told)
	}
}

func TestCommandsTellWhatTheirFunctionsTell(t *testing.T) {
	far := []int64{-1, 0, 1, 2, 3, 4, 9, 1000000}
	met := map[int64]map[int64]bool{}
	worlds := append(append(mendedWorlds(200), gateWorld(), allied()), threeHeirs())
	for _, w := range worlds {
		for i := range w.Seats {
			w.Seats[i].Mask, w.Seats[i].Last = 2047, min(w.Seats[i].Last, 998)
		}
		for _, seat := range w.Seats {
			client, side := seat.Client, seat.Faction
			say := func(told int64, kind int64, params ...int64) {
				t.Helper()
				if c := said(client, kind, params...); faultByHand(c) == impl.OK {
					heldAgainst(t, w, c, told)
					if met[kind] == nil {
						met[kind] = map[int64]bool{}
					}
					met[kind][told] = true
				}
			}
			say(impl.LeaveSide(w, side).Code, impl.DoSurrender)
			say(impl.LeaveSeat(w, client).Code, impl.DoLeave)
			for _, to := range far {
				say(impl.OfferPact(w, side, to).Code, impl.DoOffer, to)
				say(impl.AcceptPact(w, side, to).Code, impl.DoAccept, to)
				say(impl.BreakPact(w, side, to).Code, impl.DoBreak, to)
				for _, n := range []int64{0, 1, 7, 500, 1000000} {
					say(impl.PayTribute(w, side, to, n).Code, impl.DoTribute, to, n)
				}
				for _, u := range w.Board.Units {
					if u.Owner == side {
						say(impl.GiveUnit(w, side, u.Id, to).Code, impl.DoGift, u.Id, to)
					}
				}
			}
		}
	}
	wantMet(t, met, map[int64][]int64{
		impl.DoTribute:   {impl.OK, impl.ErrRange, impl.ErrForm, impl.ErrState, impl.ErrPoor, impl.ErrFull},
		impl.DoGift:      {impl.OK, impl.ErrRange, impl.ErrForm, impl.ErrState},
		impl.DoOffer:     {impl.OK, impl.ErrRange, impl.ErrForm, impl.ErrState, impl.ErrTaken},
		impl.DoAccept:    {impl.OK, impl.ErrRange, impl.ErrForm, impl.ErrState, impl.ErrNone},
		impl.DoBreak:     {impl.OK, impl.ErrRange, impl.ErrForm, impl.ErrState, impl.ErrNone},
		impl.DoSurrender: {impl.OK, impl.ErrFull},
		impl.DoLeave:     {impl.OK, impl.ErrFull},
	})
}

func wantMet(t *testing.T, met map[int64]map[int64]bool, kinds map[int64][]int64) {
	t.Helper()
	for kind, codes := range kinds {
		for _, code := range codes {
			if !met[kind][code] {
				t.Errorf("kind %d: no command told %d", kind, code)
			}
		}
	}
}

func TestTributesAndGiftsSaid(t *testing.T) {
	w := gateWorld()
	for _, c := range []struct{ kind, a, b, code int64 }{
		{impl.DoTribute, 1, 1, impl.OK},
		{impl.DoTribute, 1, 500, impl.OK},
		{impl.DoTribute, 2, 500, impl.OK},
		{impl.DoTribute, 1, 501, impl.ErrPoor},
		{impl.DoTribute, 2, 1000000, impl.ErrPoor},
		{impl.DoTribute, 1, 0, impl.ErrRange},
		{impl.DoTribute, 4, 5, impl.ErrRange},
		{impl.DoTribute, 4, 501, impl.ErrRange},
		{impl.DoTribute, 0, 5, impl.ErrForm},
		{impl.DoTribute, 0, 0, impl.ErrForm},
		{impl.DoTribute, 3, 5, impl.ErrState},
		{impl.DoTribute, 3, 0, impl.ErrState},
		{impl.DoTribute, 1, 1000001, impl.ErrRange},
		{impl.DoGift, 2, 1, impl.OK},
		{impl.DoGift, 4, 2, impl.OK},
		{impl.DoGift, 2, 0, impl.ErrForm},
		{impl.DoGift, 2, 3, impl.ErrState},
		{impl.DoGift, 2, 4, impl.ErrRange},
		{impl.DoGift, 2, impl.Nobody, impl.ErrRange},
		{impl.DoGift, 3, 1, impl.ErrNone},
		{impl.DoGift, 3, 0, impl.ErrNone},
		{impl.DoGift, 3, 3, impl.ErrNone},
		{impl.DoGift, 3, 4, impl.ErrNone},
		{impl.DoGift, 6, 1, impl.ErrRight},
		{impl.DoGift, 6, 0, impl.ErrRight},
		{impl.DoGift, 6, 3, impl.ErrRight},
		{impl.DoGift, 6, 4, impl.ErrRight},
		{impl.DoGift, 8, 1, impl.ErrRight},
	} {
		wantSaid(t, w, said(0, c.kind, c.a, c.b), c.code)
	}
	w.Factions[2].Purse = 999501
	wantSaid(t, w, said(0, impl.DoTribute, 2, 500), impl.ErrFull)
	wantSaid(t, w, said(0, impl.DoTribute, 2, 499), impl.OK)
	wantSaid(t, w, said(0, impl.DoTribute, 2, 501), impl.ErrPoor)
}

func TestPactsSaid(t *testing.T) {
	w := gateWorld()
	for _, c := range []struct{ client, kind, a, code int64 }{
		{0, impl.DoOffer, 1, impl.OK},
		{0, impl.DoOffer, 2, impl.ErrTaken},
		{3, impl.DoOffer, 0, impl.OK},
		{2, impl.DoOffer, 0, impl.ErrTaken},
		{2, impl.DoOffer, 2, impl.ErrTaken},
		{0, impl.DoAccept, 1, impl.OK},
		{0, impl.DoAccept, 2, impl.ErrNone},
		{3, impl.DoAccept, 0, impl.OK},
		{2, impl.DoAccept, 0, impl.ErrNone},
		{2, impl.DoBreak, 2, impl.OK},
		{3, impl.DoBreak, 1, impl.OK},
		{0, impl.DoBreak, 1, impl.ErrNone},
		{0, impl.DoBreak, 2, impl.ErrNone},
	} {
		wantSaid(t, w, said(c.client, c.kind, c.a), c.code)
	}
	for _, kind := range []int64{impl.DoOffer, impl.DoAccept, impl.DoBreak} {
		wantSaid(t, w, said(0, kind, 0), impl.ErrForm)
		wantSaid(t, w, said(0, kind, 3), impl.ErrState)
		wantSaid(t, w, said(0, kind, 4), impl.ErrRange)
		wantSaid(t, w, said(0, kind, impl.Nobody), impl.ErrRange)
		wantSaid(t, w, said(0, kind, 1000000), impl.ErrRange)
	}
	w = turned(impl.NewWorld().World, func(w *impl.World) {
		w.Seats = []impl.Seat{{Client: 0, Faction: 3, Mask: 2047}, {Client: 1, Faction: 0, Mask: 2047}}
		w.Offers = sixOffers()
	})
	wantSaid(t, w, said(0, impl.DoOffer, 1), impl.ErrFull)
	wantSaid(t, w, said(1, impl.DoOffer, 1), impl.ErrTaken)
}

func TestSidesAndSeatsThatSayTheyLeave(t *testing.T) {
	w := gateWorld()
	for _, c := range []struct{ spent, surrender, leave int64 }{
		{0, impl.OK, impl.OK},
		{99000999, impl.OK, impl.OK},
		{99001000, impl.OK, impl.OK},
		{99001001, impl.ErrFull, impl.ErrFull},
		{100000000, impl.ErrFull, impl.ErrFull},
	} {
		w.Spent = c.spent
		wantSaid(t, w, said(3, impl.DoSurrender), c.surrender)
		wantSaid(t, w, said(3, impl.DoLeave), c.leave)
	}
	wantSaid(t, w, said(0, impl.DoSurrender), impl.ErrFull)
	wantSaid(t, w, said(0, impl.DoLeave), impl.OK)
	wantSaid(t, w, said(1, impl.DoSurrender), impl.ErrRight)
	wantSaid(t, w, said(1, impl.DoLeave), impl.OK)
	w.Spent = 99999500
	wantSaid(t, w, said(0, impl.DoSurrender), impl.OK)
	w.Spent++
	wantSaid(t, w, said(0, impl.DoSurrender), impl.ErrFull)

	alone := turned(gateWorld(), func(w *impl.World) { w.Seats, w.Spent = w.Seats[1:], 99999500 })
	wantSaid(t, alone, said(1, impl.DoLeave), impl.OK)
	alone.Spent++
	wantSaid(t, alone, said(1, impl.DoLeave), impl.ErrFull)
	wantSaid(t, alone, said(0, impl.DoLeave), impl.ErrNone)
	alone.Factions[0].Purse = 0
	alone.Spent = 100000000
	wantSaid(t, alone, said(1, impl.DoLeave), impl.OK)
}

func TestAuthoriseAsksInOrder(t *testing.T) {
	w := gateWorld()
	for _, c := range []struct {
		about   string
		command impl.Command
		code    int64
	}{
		{"a range, ahead of the form", impl.Command{Client: 6, Seq: 1, Kind: impl.DoLeave, A: 1}, impl.ErrRange},
		{"a Seq, ahead of who has no seat", impl.Command{Client: 5, Seq: 0, Kind: impl.DoMove, A: 2}, impl.ErrRange},
		{"a kind, ahead of who has no seat", impl.Command{Client: 5, Seq: 1, Kind: 12}, impl.ErrRange},
		{"the form, ahead of who has no seat", impl.Command{Client: 5, Seq: 1, Kind: impl.DoLeave, A: 1}, impl.ErrForm},
		{"the form, ahead of a Seq", impl.Command{Client: 0, Seq: 1, Kind: impl.DoOffer, B: 1}, impl.ErrForm},
		{"a param, ahead of a Seq", impl.Command{Client: 0, Seq: 1, Kind: impl.DoMove, A: 1000001}, impl.ErrRange},
		{"the form, ahead of a right", impl.Command{Client: 1, Seq: 8, Kind: impl.DoGift, C: 1}, impl.ErrForm},
		{"no seat, ahead of all of the kind", impl.Command{Client: 5, Seq: 1, Kind: impl.DoMove, A: 3, B: 12}, impl.ErrNone},
		{"a Seq, ahead of a right", impl.Command{Client: 1, Seq: 7, Kind: impl.DoMove, A: 2}, impl.ErrTaken},
		{"a Seq, ahead of what is none", impl.Command{Client: 0, Seq: 41, Kind: impl.DoMove, A: 3}, impl.ErrTaken},
		{"a Seq, ahead of what is full", impl.Command{Client: 3, Seq: 998, Kind: impl.DoLeave}, impl.ErrTaken},
		{"a right, ahead of what is none", impl.Command{Client: 1, Seq: 8, Kind: impl.DoMove, A: 3, B: 12}, impl.ErrRight},
		{"a right, ahead of a mask of nobody", impl.Command{Client: 1, Seq: 8, Kind: impl.DoMask, A: 5, B: 2048}, impl.ErrRight},
		{"a right, ahead of who is poor", impl.Command{Client: 1, Seq: 8, Kind: impl.DoTribute, A: 1, B: 501}, impl.ErrRight},
		{"no unit, ahead of a tile", said(0, impl.DoMove, 3, 12, 12), impl.ErrNone},
		{"no unit, ahead of a field", said(0, impl.DoHarvest, 3, 3), impl.ErrNone},
		{"no unit, ahead of itself", said(0, impl.DoAttack, 3, 3), impl.ErrNone},
		{"another's unit, ahead of a tile", said(0, impl.DoMove, 6, 12, 0), impl.ErrRight},
		{"another's unit, ahead of a field", said(0, impl.DoHarvest, 6, 3), impl.ErrRight},
		{"another's unit, ahead of itself", said(0, impl.DoAttack, 6, 6), impl.ErrRight},
		{"a unit of Nobody, ahead of a tile", said(0, impl.DoMove, 8, 0, 12), impl.ErrRight},
		{"a unit of Nobody, ahead of what is not there", said(0, impl.DoAttack, 8, 7), impl.ErrRight},
	} {
		t.Run(c.about, func(t *testing.T) { wantSaid(t, w, c.command, c.code) })
	}
}

func TestAFaultOfTheWorldIsAheadOfAll(t *testing.T) {
	commands := append(goodSayings(), impl.Command{}, impl.Command{Client: 0, Seq: 1, Kind: impl.DoLeave, A: 1},
		said(5, impl.DoLeave), said(math.MinInt64, math.MaxInt64), said(1, impl.DoMove, 2, 12, 12))
	codes := map[int64]bool{}
	for _, w := range append(faultyWorlds(), turned(gateWorld(), func(w *impl.World) { w.Board.Units[2].Owner = 3 })) {
		for _, c := range commands {
			want := worldFaultByHand(w)
			codes[want] = true
			wantSaid(t, w, c, want)
		}
	}
	if codes[impl.OK] || !codes[impl.ErrForm] || !codes[impl.ErrMany] || !codes[impl.ErrRange] {
		t.Error("codes", codes)
	}
}

func TestAFaultOfTheCommandIsAheadOfItsRest(t *testing.T) {
	for _, w := range []impl.World{gateWorld(), impl.NewWorld().World} {
		eachEdge(func(c impl.Command) {
			if got, want := impl.Authorise(w, c), authoriseByHand(w, c); got != want {
				t.Fatalf("Authorise(%+v): got %d, want %d", c, got, want)
			}
		})
	}
}

// sayings are of a kind, by all clients, with what fits often and what does not.
func (d *dice) saying() impl.Command {
	c := impl.Command{Client: d.roll(6), Seq: d.pick(1, 300, 600, 999, 999), Kind: d.roll(11) + 1}
	count := kindsByHand[c.Kind-1].count
	for _, at := range []*int64{&c.A, &c.B, &c.C}[:count] {
		*at = d.pick(0, 1, 1, 2, 2, 3, 4, 5, 6, 8, 9, 11, 12, 99, 500, 2047, 2048, 1000000)
	}
	if d.roll(40) == 0 {
		c.C = d.pick(-1, 1, 1000001)
	}
	return c
}

func TestCommandsInManyWorlds(t *testing.T) {
	d := dice(31)
	met := map[int64]map[int64]bool{}
	worlds := append(append(mendedWorlds(600), faultyWorlds()...), gateWorld(), allied(), threeHeirs())
	for _, w := range worlds {
		for i := range w.Seats {
			w.Seats[i].Mask |= d.pick(0, 2047, 2047)
		}
		was := copyOfWorld(w)
		for range 300 {
			c := d.saying()
			got, want := impl.Authorise(w, c), authoriseByHand(w, c)
			if got != want {
				t.Fatalf("Authorise(%+v, %+v): got %d, want %d", was, c, got, want)
			}
			if again := impl.Authorise(was, c); again != got {
				t.Fatalf("Authorise(%+v, %+v): another answer, %d and %d", was, c, got, again)
			}
			if met[c.Kind] == nil {
				met[c.Kind] = map[int64]bool{}
			}
			met[c.Kind][got] = true
		}
		if !sameByHand(fullOf(w), fullOf(was)) {
			t.Fatalf("changed: %+v", was)
		}
	}
	always := []int64{impl.OK, impl.ErrTaken, impl.ErrNone}
	kinds := map[int64][]int64{}
	for kind := int64(1); kind <= 11; kind++ {
		kinds[kind] = append(slices.Clone(always), impl.ErrRight)
	}
	kinds[impl.DoLeave] = append(always, impl.ErrFull)
	wantMet(t, met, kinds)
}

func TestSpendsOf(t *testing.T) {
	for _, n := range []int64{0, 1, 5, 999999, 1000000} {
		for _, to := range []int64{0, 1, 3, 4, 1000000} {
			wantInt(t, fmt.Sprint("a tribute of ", n), impl.SpendsOf(said(1, impl.DoTribute, to, n)), impl.OK, n)
		}
	}
	for _, c := range goodSayings() {
		want := int64(0)
		if c.Kind == impl.DoTribute {
			want = 500
		}
		wantInt(t, fmt.Sprintf("SpendsOf(%+v)", c), impl.SpendsOf(c), impl.OK, want)
	}
	for _, c := range goodCommands() {
		want := int64(0)
		if c.Kind == impl.DoTribute {
			want = c.B
		}
		wantInt(t, fmt.Sprintf("SpendsOf(%+v)", c), impl.SpendsOf(c), impl.OK, want)
	}
	eachEdge(func(c impl.Command) {
		code, want := faultByHand(c), int64(0)
		if code == impl.OK && c.Kind == impl.DoTribute {
			want = c.B
		}
		wantInt(t, fmt.Sprintf("SpendsOf(%+v)", c), impl.SpendsOf(c), code, want)
	})
	for _, n := range outside(0, 1000000) {
		wantInt(t, "a tribute that is none", impl.SpendsOf(said(1, impl.DoTribute, 2, n)), impl.ErrRange, 0)
	}
	wantInt(t, "nothing", impl.SpendsOf(impl.Command{}), impl.ErrRange, 0)
}

func TestReasonText(t *testing.T) {
	words := map[int64]string{
		impl.OK: "ok", impl.ErrForm: "form", impl.ErrMany: "many", impl.ErrRange: "range", impl.ErrNone: "none", impl.ErrText: "text",
		impl.ErrTaken: "taken", impl.ErrFull: "full", impl.ErrState: "state", impl.ErrRight: "right", impl.ErrPoor: "poor",
	}
	for code := range int64(11) {
		wantText(t, fmt.Sprintf("ReasonText(%d)", code), impl.ReasonText(code), impl.OK, words[code])
	}
	for _, code := range append(outside(0, 10), -11, 12, 255, 256, 1<<32, 1<<32+1, math.MinInt64+4) {
		wantText(t, fmt.Sprintf("ReasonText(%d)", code), impl.ReasonText(code), impl.ErrRange, "")
	}
}

func TestAllowedKindsOfEveryMask(t *testing.T) {
	w := gateWorld()
	for mask := range int64(2048) {
		w.Seats[2].Mask = mask
		got := impl.AllowedKinds(w, 2)
		want := allowedByHand(w, 2)
		wantInts(t, fmt.Sprint("mask ", mask), got, impl.OK, want.List...)
		for kind := int64(1); kind <= 11; kind++ {
			if slices.Contains(got.List, kind) != impl.HasRight(mask, kind) {
				t.Errorf("mask %d: kind %d in %v", mask, kind, got.List)
			}
		}
	}
	for mask, kinds := range map[int64][]int64{
		0:                   {},
		1:                   {impl.DoMove},
		1 << 10:             {impl.DoLeave},
		1<<10 | 1<<3 | 1:    {impl.DoMove, impl.DoTribute, impl.DoLeave},
		1<<8 | 1<<9:         {impl.DoMask, impl.DoSurrender},
		1<<1 | 1<<2 | 1<<4:  {impl.DoHarvest, impl.DoAttack, impl.DoGift},
		1<<5 | 1<<6 | 1<<7:  {impl.DoOffer, impl.DoAccept, impl.DoBreak},
		2047:                {1, 2, 3, 4, 5, 6, 7, 8, 9, 10, 11},
		2047 - 1<<3 - 1<<10: {1, 2, 3, 5, 6, 7, 8, 9, 10},
	} {
		w.Seats[2].Mask = mask
		wantInts(t, fmt.Sprint("by hand, mask ", mask), impl.AllowedKinds(w, 2), impl.OK, kinds...)
	}
}

func TestAllowedKindsOfManyWorlds(t *testing.T) {
	wantInts(t, "all", impl.AllowedKinds(gateWorld(), 0), impl.OK, 1, 2, 3, 4, 5, 6, 7, 8, 9, 10, 11)
	wantInts(t, "none", impl.AllowedKinds(gateWorld(), 1), impl.OK)
	wantInts(t, "one", impl.AllowedKinds(gateWorld(), 4), impl.OK, impl.DoMask)
	wantInts(t, "without a seat", impl.AllowedKinds(gateWorld(), 5), impl.ErrNone)
	for _, w := range append(append(mendedWorlds(100), faultyWorlds()...), someWorlds(100)...) {
		was := copyOfWorld(w)
		for _, client := range append(outside(0, 5), 0, 1, 2, 3, 4, 5, 1<<32) {
			want := allowedByHand(w, client)
			got := impl.AllowedKinds(w, client)
			wantInts(t, fmt.Sprintf("AllowedKinds(%+v, %d)", was, client), got, want.Code, want.List...)
			if code := impl.SeatOf(w, client).Code; got.Code != code {
				t.Errorf("AllowedKinds(%+v, %d): code %d, of SeatOf %d", was, client, got.Code, code)
			}
		}
		if !sameByHand(fullOf(w), fullOf(was)) {
			t.Errorf("changed: %+v", was)
		}
	}
}

// gateAnswers are those of all functions of who may say what, for one world.
func gateAnswers(w impl.World, commands []impl.Command) []any {
	var answers []any
	for code := int64(-1); code <= 11; code++ {
		answers = append(answers, impl.ReasonText(code))
	}
	for client := int64(-1); client <= 6; client++ {
		answers = append(answers, impl.AllowedKinds(w, client))
	}
	for _, c := range commands {
		answers = append(answers, impl.Authorise(w, c), impl.SpendsOf(c))
	}
	return answers
}

func TestAnswersOfTheGateHangOnArgumentsAlone(t *testing.T) {
	commands := append(goodSayings(), impl.Command{}, said(5, impl.DoLeave), said(1, impl.DoMove, 2, 12, 12), said(2, impl.DoMask, 4, 5))
	worlds := append(append(mendedWorlds(60), faultyWorlds()...), gateWorld(), allied())
	checkArgumentsAlone(t, worlds, func(w impl.World) []any { return gateAnswers(w, commands) })
}

func TestAllowedKindsAreNewMemory(t *testing.T) {
	for _, w := range append(mendedWorlds(60), gateWorld()) {
		for client := range int64(6) {
			checkNewNumbers(t, w, func(w impl.World) impl.IntsResult { return impl.AllowedKinds(w, client) })
		}
	}
}
