package tests

import (
	"fmt"
	"math"
	"reflect"
	"slices"
	"testing"

	"loop.example/g00646/impl"
)

func pairFaultByHand(w impl.World, a int64, b int64) int64 {
	if code := worldFaultByHand(w); code != impl.OK {
		return code
	}
	if !within(a, 0, 3) || !within(b, 0, 3) {
		return impl.ErrRange
	}
	if a == b {
		return impl.ErrForm
	}
	if w.Factions[a].Gone || w.Factions[b].Gone {
		return impl.ErrState
	}
	return impl.OK
}

func hasOfferByHand(w impl.World, from int64, to int64) bool {
	for _, o := range w.Offers {
		if o.From == from && o.To == to {
			return true
		}
	}
	return false
}

func offerByHand(w impl.World, from int64, to int64) impl.WorldResult {
	code := pairFaultByHand(w, from, to)
	if code == impl.OK && (bitByHand(w.Factions[from].Allies, to) || hasOfferByHand(w, from, to)) {
		code = impl.ErrTaken
	}
	if code == impl.OK && len(w.Offers) == 6 {
		code = impl.ErrFull
	}
	if code != impl.OK {
		return impl.WorldResult{Code: code}
	}
	now := copyOfWorld(w)
	now.Offers = append(slices.Clone(w.Offers), impl.Offer{From: from, To: to})
	return impl.WorldResult{World: now}
}

func acceptByHand(w impl.World, by int64, other int64) impl.WorldResult {
	code := pairFaultByHand(w, by, other)
	if code == impl.OK && !hasOfferByHand(w, other, by) {
		code = impl.ErrNone
	}
	if code != impl.OK {
		return impl.WorldResult{Code: code}
	}
	now := copyOfWorld(w)
	now.Offers = nil
	for _, o := range w.Offers {
		if o.From+o.To != by+other || o.From != by && o.From != other {
			now.Offers = append(now.Offers, o)
		}
	}
	worth := []int64{1, 2, 4, 8}
	now.Factions[by].Allies += worth[other]
	now.Factions[other].Allies += worth[by]
	return impl.WorldResult{World: now}
}

func breakByHand(w impl.World, by int64, other int64) impl.WorldResult {
	code := pairFaultByHand(w, by, other)
	if code == impl.OK && !bitByHand(w.Factions[by].Allies, other) {
		code = impl.ErrNone
	}
	if code != impl.OK {
		return impl.WorldResult{Code: code}
	}
	now := copyOfWorld(w)
	worth := []int64{1, 2, 4, 8}
	now.Factions[by].Allies -= worth[other]
	now.Factions[other].Allies -= worth[by]
	return impl.WorldResult{World: now}
}

func alliesByHand(w impl.World, faction int64) impl.IntsResult {
	if code := worldFaultByHand(w); code != impl.OK {
		return impl.IntsResult{Code: code}
	}
	if !within(faction, 0, 3) {
		return impl.IntsResult{Code: impl.ErrRange}
	}
	var list []int64
	for other := range int64(4) {
		if bitByHand(w.Factions[other].Allies, faction) {
			list = append(list, other)
		}
	}
	return impl.IntsResult{List: list}
}

func offersToByHand(w impl.World, faction int64) impl.IntsResult {
	if code := worldFaultByHand(w); code != impl.OK {
		return impl.IntsResult{Code: code}
	}
	if !within(faction, 0, 3) {
		return impl.IntsResult{Code: impl.ErrRange}
	}
	var list []int64
	for _, o := range w.Offers {
		if o.To == faction {
			list = append(list, o.From)
		}
	}
	return impl.IntsResult{List: list}
}

// pactCall is one of the functions that turn pacts, and how it is worked out by hand.
type pactCall struct {
	name   string
	call   func(w impl.World, a int64, b int64) impl.WorldResult
	byHand func(w impl.World, a int64, b int64) impl.WorldResult
}

func pactCalls() []pactCall {
	return []pactCall{
		{"OfferPact", impl.OfferPact, offerByHand},
		{"AcceptPact", impl.AcceptPact, acceptByHand},
		{"BreakPact", impl.BreakPact, breakByHand},
	}
}

// mended is a world whose pacts, seats, offers and owners fit to who is Gone.
func mended(w impl.World) impl.World {
	w = copyOfWorld(w)
	for a := range w.Factions {
		for b := range w.Factions {
			if (w.Factions[a].Gone || w.Factions[b].Gone) && bitByHand(w.Factions[a].Allies, int64(b)) {
				w.Factions[a].Allies -= []int64{1, 2, 4, 8}[b]
			}
		}
	}
	w.Seats = slices.DeleteFunc(w.Seats, func(s impl.Seat) bool { return w.Factions[s.Faction].Gone })
	var offers []impl.Offer
	for _, o := range w.Offers {
		with := w
		with.Offers = append(slices.Clone(offers), o)
		if offerFaultByHand(with, len(offers)) == impl.OK {
			offers = with.Offers
		}
	}
	w.Offers = offers
	for i, u := range w.Board.Units {
		if u.Owner != impl.Nobody && w.Factions[u.Owner].Gone {
			w.Board.Units[i].Owner = impl.Nobody
		}
	}
	return w
}

// mendedWorlds have no fault, and up to six offers.
func mendedWorlds(n int) []impl.World {
	worlds, d := goodWorlds(), dice(23)
	for range n {
		w := d.world()
		w.Offers = nil
		for range d.roll(9) {
			w.Offers = append(w.Offers, impl.Offer{From: d.roll(4), To: d.roll(4)})
		}
		w = mended(w)
		w.Offers = w.Offers[:min(len(w.Offers), 6)]
		worlds = append(worlds, w)
	}
	return worlds
}

// alliesAre turns the Allies of all four.
func alliesAre(a, b, c, d int64) func(w *impl.World) {
	return func(w *impl.World) {
		for i, v := range []int64{a, b, c, d} {
			w.Factions[i].Allies = v
		}
	}
}

func wantAllies(t *testing.T, call string, w impl.World, lists ...[]int64) {
	t.Helper()
	for faction, list := range lists {
		wantInts(t, fmt.Sprint(call, ": allies of ", faction), impl.AlliesOf(w, int64(faction)), impl.OK, list...)
		for other := range int64(4) {
			if impl.AreAllies(w, int64(faction), other) != slices.Contains(list, other) {
				t.Errorf("%s: AreAllies(%d, %d)", call, faction, other)
			}
		}
	}
}

func wantOffersTo(t *testing.T, call string, w impl.World, lists ...[]int64) {
	t.Helper()
	for faction, list := range lists {
		wantInts(t, fmt.Sprint(call, ": offers to ", faction), impl.OffersTo(w, int64(faction)), impl.OK, list...)
	}
}

func TestAPactFromItsOfferToItsEnd(t *testing.T) {
	for _, start := range []impl.World{impl.NewWorld().World, turned(midWorld(), func(w *impl.World) { w.Offers = nil })} {
		for from := range int64(4) {
			for to := range int64(4) {
				if from == to || impl.AreAllies(start, from, to) {
					continue
				}
				call := fmt.Sprintf("%d to %d", from, to)
				offered := impl.OfferPact(start, from, to)
				wantWorld(t, call, offered, impl.WorldResult{World: turned(start, func(w *impl.World) { w.Offers = []impl.Offer{{From: from, To: to}} })})
				wantInts(t, call, impl.OffersTo(offered.World, to), impl.OK, from)
				wantInts(t, call, impl.OffersTo(offered.World, from), impl.OK)
				if impl.AreAllies(offered.World, from, to) || impl.AreAllies(offered.World, to, from) {
					t.Error(call, "allies by an offer alone")
				}
				accepted := impl.AcceptPact(offered.World, to, from)
				wantInts(t, call, impl.OffersTo(accepted.World, to), impl.OK)
				if accepted.Code != impl.OK || !impl.AreAllies(accepted.World, from, to) || !impl.AreAllies(accepted.World, to, from) {
					t.Error(call, "no allies", accepted)
				}
				if !slices.Contains(impl.AlliesOf(accepted.World, from).List, to) || !slices.Contains(impl.AlliesOf(accepted.World, to).List, from) {
					t.Error(call, "no allies in the list", accepted)
				}
				wantWorld(t, call+", broken by who offered", impl.BreakPact(accepted.World, from, to), impl.WorldResult{World: start})
				wantWorld(t, call+", broken by who accepted", impl.BreakPact(accepted.World, to, from), impl.WorldResult{World: start})
			}
		}
	}
}

func TestOffersFromSeveralInTheirOrder(t *testing.T) {
	w := impl.NewWorld().World
	for _, from := range []int64{3, 0, 2} {
		w = impl.OfferPact(w, from, 1).World
	}
	w = impl.OfferPact(w, 1, 3).World
	wantOffersTo(t, "four", w, nil, []int64{3, 0, 2}, nil, []int64{1})
	wantWorld(t, "the last one behind all others", impl.OfferPact(w, 0, 3),
		impl.WorldResult{World: turned(impl.NewWorld().World, func(w *impl.World) {
			w.Offers = []impl.Offer{{From: 3, To: 1}, {From: 0, To: 1}, {From: 2, To: 1}, {From: 1, To: 3}, {From: 0, To: 3}}
		})})
	w = impl.AcceptPact(w, 1, 0).World
	wantOffersTo(t, "one accepted", w, nil, []int64{3, 2}, nil, []int64{1})
	wantAllies(t, "one accepted", w, []int64{1}, []int64{0}, nil, nil)
	w = impl.AcceptPact(w, 1, 3).World
	wantOffersTo(t, "both ways accepted", w, nil, []int64{2}, nil, nil)
	wantAllies(t, "both ways accepted", w, []int64{1}, []int64{0, 3}, nil, []int64{1})
	w = impl.AcceptPact(w, 1, 2).World
	wantOffersTo(t, "all accepted", w, nil, nil, nil, nil)
	wantAllies(t, "all accepted", w, []int64{1}, []int64{0, 2, 3}, []int64{1}, []int64{1})
}

func TestOffersBothWays(t *testing.T) {
	w := impl.NewWorld().World
	w.Offers = sixOffers()
	for _, accepted := range []impl.WorldResult{impl.AcceptPact(w, 0, 2), impl.AcceptPact(w, 2, 0)} {
		wantWorld(t, "0 and 2", accepted, impl.WorldResult{World: turned(impl.NewWorld().World, func(w *impl.World) {
			alliesAre(4, 0, 1, 0)(w)
			w.Offers = []impl.Offer{{From: 0, To: 1}, {From: 1, To: 0}, {From: 2, To: 1}, {From: 1, To: 2}}
		})})
	}
	for _, accepted := range []impl.WorldResult{impl.AcceptPact(w, 1, 2), impl.AcceptPact(w, 2, 1)} {
		wantWorld(t, "1 and 2", accepted, impl.WorldResult{World: turned(impl.NewWorld().World, func(w *impl.World) {
			alliesAre(0, 4, 2, 0)(w)
			w.Offers = sixOffers()[:4]
		})})
	}
	one := impl.OfferPact(impl.NewWorld().World, 0, 3)
	both := impl.OfferPact(one.World, 3, 0)
	wantWorld(t, "the other way round is another one", both, impl.WorldResult{World: turned(impl.NewWorld().World, func(w *impl.World) {
		w.Offers = []impl.Offer{{From: 0, To: 3}, {From: 3, To: 0}}
	})})
	wantNoWorld(t, "the one again", impl.OfferPact(both.World, 0, 3), impl.ErrTaken)
	wantNoWorld(t, "the other one again", impl.OfferPact(both.World, 3, 0), impl.ErrTaken)
	wantNoWorld(t, "one's own offer", impl.AcceptPact(one.World, 0, 3), impl.ErrNone)
	allied := impl.AcceptPact(both.World, 0, 3).World
	if len(allied.Offers) != 0 || impl.AlliesOf(allied, 0).List[0] != 3 || impl.AlliesOf(allied, 3).List[0] != 0 {
		t.Error("accepted:", allied)
	}
	wantNoWorld(t, "accepted twice", impl.AcceptPact(allied, 3, 0), impl.ErrNone)
	wantWorld(t, "broken, with neither offer there again", impl.BreakPact(allied, 0, 3), impl.NewWorld())
}

func TestSixOffers(t *testing.T) {
	w := impl.NewWorld().World
	for i, o := range sixOffers() {
		next := impl.OfferPact(w, o.From, o.To)
		if next.Code != impl.OK || !slices.Equal(next.World.Offers, sixOffers()[:i+1]) {
			t.Fatalf("offer %d: %+v", i, next)
		}
		w = next.World
	}
	for from := range int64(3) {
		wantNoWorld(t, "a seventh one", impl.OfferPact(w, from, 3), impl.ErrFull)
		wantNoWorld(t, "a seventh one", impl.OfferPact(w, 3, from), impl.ErrFull)
	}
	for _, o := range sixOffers() {
		wantNoWorld(t, "one that is there, among six", impl.OfferPact(w, o.From, o.To), impl.ErrTaken)
	}
	allied := turned(w, func(w *impl.World) {
		w.Offers = []impl.Offer{{From: 0, To: 1}, {From: 1, To: 0}, {From: 2, To: 0}, {From: 0, To: 2}, {From: 3, To: 0}, {From: 0, To: 3}}
		alliesAre(0, 4, 2, 0)(w)
	})
	wantNoWorld(t, "allies, among six", impl.OfferPact(allied, 2, 1), impl.ErrTaken)
	wantNoWorld(t, "no allies, among six", impl.OfferPact(allied, 3, 1), impl.ErrFull)
	room := impl.AcceptPact(allied, 3, 0).World
	wantWorld(t, "room again", impl.OfferPact(room, 3, 1), offerByHand(room, 3, 1))
	if len(impl.OfferPact(room, 3, 1).World.Offers) != 5 {
		t.Error("not five", room)
	}
}

func TestOneOfSeveralPactsIsBroken(t *testing.T) {
	two := turned(impl.NewWorld().World, alliesAre(0, 12, 2, 2))
	wantAllies(t, "two", two, nil, []int64{2, 3}, []int64{1}, []int64{1})
	wantAllies(t, "the one broken", impl.BreakPact(two, 1, 2).World, nil, []int64{3}, nil, []int64{1})
	wantAllies(t, "the other one broken", impl.BreakPact(two, 3, 1).World, nil, []int64{2}, []int64{1}, nil)
	all := turned(midWorld(), func(w *impl.World) {
		alliesAre(14, 13, 11, 7)(w)
		w.Offers = nil
	})
	wantAllies(t, "all", all, []int64{1, 2, 3}, []int64{0, 2, 3}, []int64{0, 1, 3}, []int64{0, 1, 2})
	wantWorld(t, "0 and 3 broken", impl.BreakPact(all, 3, 0), impl.WorldResult{World: turned(all, alliesAre(6, 13, 11, 6))})
	wantWorld(t, "1 and 2 broken", impl.BreakPact(all, 1, 2), impl.WorldResult{World: turned(all, alliesAre(14, 9, 9, 7))})
	wantNoWorld(t, "no pact", impl.BreakPact(two, 2, 3), impl.ErrNone)
	wantNoWorld(t, "an offer is no pact", impl.BreakPact(midWorld(), 0, 2), impl.ErrNone)
	wantNoWorld(t, "broken twice", impl.BreakPact(impl.BreakPact(two, 1, 2).World, 1, 2), impl.ErrNone)
}

func TestEmptyListsOfPacts(t *testing.T) {
	empty := goodWorlds()[6]
	for _, w := range []impl.World{impl.NewWorld().World, empty} {
		wantAllies(t, "nobody's", w, nil, nil, nil, nil)
		wantOffersTo(t, "nobody's", w, nil, nil, nil, nil)
		wantWorld(t, "the first offer", impl.OfferPact(w, 3, 0), offerByHand(w, 3, 0))
		wantNoWorld(t, "nothing offered", impl.AcceptPact(w, 3, 0), impl.ErrNone)
		wantNoWorld(t, "nothing to break", impl.BreakPact(w, 3, 0), impl.ErrNone)
	}
}

func TestPactsAskInOrder(t *testing.T) {
	gone := goneWorld()
	for _, c := range pactCalls() {
		for _, side := range append(outside(0, 3), impl.Nobody, 5, math.MinInt64+1, 1<<32, 1<<53, 64) {
			wantNoWorld(t, c.name+" a range", c.call(gone, side, 1), impl.ErrRange)
			wantNoWorld(t, c.name+" a range behind", c.call(gone, 1, side), impl.ErrRange)
			wantNoWorld(t, c.name+" a range ahead of like ones", c.call(gone, side, side), impl.ErrRange)
			wantNoWorld(t, c.name+" a range ahead of who is Gone", c.call(gone, side, 3), impl.ErrRange)
			wantNoWorld(t, c.name+" a range ahead of who is Gone", c.call(gone, 3, side), impl.ErrRange)
		}
		for side := range int64(4) {
			wantNoWorld(t, c.name+" like ones, Gone or not", c.call(gone, side, side), impl.ErrForm)
		}
		wantNoWorld(t, c.name+" who is Gone", c.call(gone, 3, 1), impl.ErrState)
		wantNoWorld(t, c.name+" who is Gone behind", c.call(gone, 1, 3), impl.ErrState)
		six := turned(gone, func(w *impl.World) { alliesAre(0, 0, 0, 0)(w); w.Offers = sixOffers() })
		wantNoWorld(t, c.name+" who is Gone, among six", c.call(six, 3, 1), impl.ErrState)
		for _, w := range faultyWorlds() {
			for _, sides := range [][2]int64{{0, 1}, {0, 2}, {2, 0}, {1, 1}, {-1, 4}, {3, 1}} {
				wantNoWorld(t, c.name+" a fault", c.call(w, sides[0], sides[1]), worldFaultByHand(w))
			}
		}
	}
	wantNoWorld(t, "an offer to an ally", impl.OfferPact(midWorld(), 0, 1), impl.ErrTaken)
	wantNoWorld(t, "an offer to an ally, the other way", impl.OfferPact(midWorld(), 1, 0), impl.ErrTaken)
	wantNoWorld(t, "accepted of an ally", impl.AcceptPact(midWorld(), 0, 1), impl.ErrNone)
	for _, w := range append(goodWorlds(), faultyWorlds()...) {
		for _, side := range append(outside(0, 3), impl.Nobody, 32, 64) {
			code := worldFaultByHand(w)
			if code == impl.OK {
				code = impl.ErrRange
			}
			wantInts(t, fmt.Sprintf("AlliesOf(%+v, %d)", w, side), impl.AlliesOf(w, side), code)
			wantInts(t, fmt.Sprintf("OffersTo(%+v, %d)", w, side), impl.OffersTo(w, side), code)
		}
	}
}

func TestPactsOfManyWorlds(t *testing.T) {
	codes := map[string]map[int64]int{}
	for i, w := range append(append(mendedWorlds(3000), faultyWorlds()...), someWorlds(300)...) {
		for a := int64(-1); a <= 4; a++ {
			allies, offers := alliesByHand(w, a), offersToByHand(w, a)
			wantInts(t, fmt.Sprintf("AlliesOf(world %d, %d)", i, a), impl.AlliesOf(w, a), allies.Code, allies.List...)
			wantInts(t, fmt.Sprintf("OffersTo(world %d, %d)", i, a), impl.OffersTo(w, a), offers.Code, offers.List...)
			for b := int64(-1); b <= 4; b++ {
				for _, c := range pactCalls() {
					got, want := c.call(w, a, b), c.byHand(w, a, b)
					if codes[c.name] == nil {
						codes[c.name] = map[int64]int{}
					}
					codes[c.name][want.Code]++
					call := fmt.Sprintf("%s(world %d, %d, %d)", c.name, i, a, b)
					if want.Code != impl.OK {
						wantNoWorld(t, call, got, want.Code)
						continue
					}
					wantWorld(t, call, got, want)
					checkPact(t, call, w, got.World)
				}
			}
			if t.Failed() {
				t.Fatalf("world %d is %+v", i, w)
			}
		}
	}
	for name, list := range codes {
		if list[impl.OK] < 500 || list[impl.ErrState] < 500 || list[impl.ErrNone]+list[impl.ErrTaken] < 500 {
			t.Error("too few of one kind", name, list)
		}
	}
	if codes["OfferPact"][impl.ErrFull] < 100 {
		t.Error("too few that are full", codes)
	}
}

// checkPact asks that there is no fault, that pacts have two sides, and that only pacts and offers turned.
func checkPact(t *testing.T, call string, was impl.World, now impl.World) {
	t.Helper()
	if impl.WorldFault(now) != impl.OK || impl.TotalOf(now) != impl.TotalOf(was) {
		t.Errorf("%s: a fault, or another total", call)
	}
	for a := range int64(4) {
		for b := range int64(4) {
			if impl.AreAllies(now, a, b) != impl.AreAllies(now, b, a) {
				t.Errorf("%s: %d and %d are not allies of each other", call, a, b)
			}
		}
	}
	back := copyOfWorld(now)
	back.Offers = was.Offers
	for i, f := range was.Factions {
		back.Factions[i].Allies = f.Allies
	}
	if !sameByHand(was, back) {
		t.Errorf("%s: more than pacts turned", call)
	}
}

func TestAcceptedAndBrokenIsAsItWas(t *testing.T) {
	count := 0
	for _, w := range mendedWorlds(4000) {
		for a := range int64(4) {
			for b := range int64(4) {
				offered := impl.OfferPact(w, a, b)
				if offered.Code != impl.OK || hasOfferByHand(w, b, a) {
					continue
				}
				count++
				accepted := impl.AcceptPact(offered.World, b, a)
				first, second := impl.BreakPact(accepted.World, a, b), impl.BreakPact(accepted.World, b, a)
				if !sameByHand(first.World, w) || !sameByHand(second.World, w) || first.Code != impl.OK || second.Code != impl.OK {
					t.Fatalf("%d and %d: %+v is not %+v", a, b, first, w)
				}
			}
		}
	}
	if count < 2000 {
		t.Error("too few", count)
	}
}

// pactAnswers are those of all functions of pacts, for one world.
func pactAnswers(w impl.World) []any {
	var answers []any
	for a := int64(-1); a <= 4; a++ {
		answers = append(answers, impl.AlliesOf(w, a), impl.OffersTo(w, a))
		for b := int64(-1); b <= 4; b++ {
			for _, c := range pactCalls() {
				answers = append(answers, c.call(w, a, b))
			}
		}
	}
	return answers
}

func TestAnswersOfPactsHangOnArgumentsAlone(t *testing.T) {
	checkArgumentsAlone(t, append(mendedWorlds(100), faultyWorlds()...), pactAnswers)
}

func TestAnswersOfPactsAreNewMemory(t *testing.T) {
	for _, w := range mendedWorlds(200) {
		for a := range int64(4) {
			checkNewNumbers(t, w, func(w impl.World) impl.IntsResult { return impl.AlliesOf(w, a) })
			checkNewNumbers(t, w, func(w impl.World) impl.IntsResult { return impl.OffersTo(w, a) })
			for b := range int64(4) {
				for _, c := range pactCalls() {
					checkNewWorld(t, w, func(w impl.World) impl.WorldResult { return c.call(w, a, b) })
				}
			}
		}
	}
}

// checkArgumentsAlone asks for the same answers again, of copies and in another order, and that no world is changed.
func checkArgumentsAlone(t *testing.T, worlds []impl.World, answers func(w impl.World) []any) {
	t.Helper()
	first := make([][]any, len(worlds))
	for i, w := range worlds {
		was := copyOfWorld(w)
		first[i] = answers(w)
		if !sameByHand(fullOf(w), fullOf(was)) {
			t.Errorf("changed: %+v", was)
		}
	}
	for i := len(worlds) - 1; i >= 0; i-- {
		if again := answers(copyOfWorld(worlds[i])); !reflect.DeepEqual(again, first[i]) {
			t.Errorf("another answer of %+v", worlds[i])
		}
	}
}

// checkNewWorld spoils an answer, and then the argument, and asks that nothing else turns.
func checkNewWorld(t *testing.T, w impl.World, call func(w impl.World) impl.WorldResult) {
	t.Helper()
	mine := copyOfWorld(w)
	first, second := call(mine), call(mine)
	kept := copyOfWorld(second.World)
	spoilWorld(first.World)
	if !sameByHand(fullOf(mine), fullOf(w)) || !sameByHand(second.World, kept) {
		t.Fatalf("an answer shares memory: %+v", w)
	}
	spoilWorld(mine)
	if !sameByHand(second.World, kept) {
		t.Fatalf("an answer shares memory with its argument: %+v", w)
	}
}

func checkNewNumbers(t *testing.T, w impl.World, call func(w impl.World) impl.IntsResult) {
	t.Helper()
	mine := copyOfWorld(w)
	first, second := call(mine), call(mine)
	kept := slices.Clone(second.List)
	spoilNumbers(first.List)
	spoilWorld(mine)
	if !slices.Equal(second.List, kept) || !reflect.DeepEqual(call(copyOfWorld(w)), second) {
		t.Fatalf("a list shares memory: %+v", w)
	}
}
