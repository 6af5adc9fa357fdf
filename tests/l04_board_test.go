package tests

import (
	"fmt"
	"math"
	"reflect"
	"slices"
	"sort"
	"testing"

	"loop.example/g00646/impl"
)

// fieldsOfUnit points at all numbers of a unit, in their order.
func fieldsOfUnit(u *impl.Unit) []*int64 {
	return []*int64{&u.Id, &u.Owner, &u.X, &u.Y, &u.Life, &u.Carry, &u.Job, &u.ToX, &u.ToY, &u.Prey}
}

func unitFaultByHand(u impl.Unit) int64 {
	owned := within(u.Owner, 0, 3) || u.Owner == 9
	if !within(u.Id, 1, 99) || !owned || !within(u.X, 0, 11) || !within(u.Y, 0, 11) || !within(u.Life, 1, 50) || !within(u.Carry, 0, 20) {
		return impl.ErrRange
	}
	goes, seeks := u.Job == impl.DoMove, u.Job == impl.DoHarvest || u.Job == impl.DoAttack
	if u.Job != 0 && !goes && !seeks || !goes && (u.ToX != 0 || u.ToY != 0) || !seeks && u.Prey != 0 {
		return impl.ErrForm
	}
	if !within(u.ToX, 0, 11) || !within(u.ToY, 0, 11) {
		return impl.ErrRange
	}
	if u.Job == impl.DoHarvest && !within(u.Prey, 0, 3) || u.Job == impl.DoAttack && (!within(u.Prey, 1, 99) || u.Prey == u.Id) {
		return impl.ErrRange
	}
	return impl.OK
}

func boardFaultByHand(b impl.Board) int64 {
	if len(b.Units) > 8 || len(b.Fields) > 4 {
		return impl.ErrMany
	}
	last := int64(0)
	for _, u := range b.Units {
		if code := unitFaultByHand(u); code != impl.OK {
			return code
		}
		if u.Id <= last {
			return impl.ErrForm
		}
		last = u.Id
	}
	for _, f := range b.Fields {
		if !within(f.X, 0, 11) || !within(f.Y, 0, 11) || !within(f.Left, 0, 10000) {
			return impl.ErrRange
		}
	}
	return impl.OK
}

// putByHand tells what stands on a board without faults when a good unit is put there, and false where there is no room.
func putByHand(b impl.Board, u impl.Unit) (impl.Board, bool) {
	units := []impl.Unit{u}
	for _, other := range b.Units {
		if other.Id != u.Id {
			units = append(units, other)
		}
	}
	if len(units) > 8 {
		return impl.Board{}, false
	}
	sort.Slice(units, func(i, j int) bool { return units[i].Id < units[j].Id })
	return impl.Board{Units: units, Fields: append([]impl.Field{}, b.Fields...)}, true
}

// copyOf has also what lies behind the ends of the lists, so that a change there is seen.
func copyOf(b impl.Board) impl.Board {
	return impl.Board{Units: wholeCopy(b.Units), Fields: wholeCopy(b.Fields)}
}

func wholeCopy[T any](list []T) []T {
	if list == nil {
		return nil
	}
	whole := make([]T, cap(list))
	copy(whole, list[:cap(list)])
	return whole[:len(list)]
}

func sameLists(a impl.Board, b impl.Board) bool {
	return slices.Equal(a.Units, b.Units) && slices.Equal(a.Fields, b.Fields)
}

func wantBoard(t *testing.T, call string, got impl.BoardResult, code int64, b impl.Board) {
	t.Helper()
	if got.Code != code || !sameLists(got.Board, b) {
		t.Errorf("%s: got %+v, want code %d and %+v", call, got, code, b)
	}
}

func wantUnit(t *testing.T, call string, got impl.UnitResult, code int64, u impl.Unit) {
	t.Helper()
	if want := (impl.UnitResult{Code: code, Unit: u}); got != want {
		t.Errorf("%s: got %+v, want %+v", call, got, want)
	}
}

// goodUnits are of every job and owner, at the ends of their bounds and between.
func goodUnits() []impl.Unit {
	return []impl.Unit{
		{Id: 1, Owner: 0, Life: 1},
		{Id: 99, Owner: impl.Nobody, X: 11, Y: 11, Life: 50, Carry: 20},
		{Id: 2, Owner: 1, X: 3, Y: 4, Life: 5, Carry: 6},
		{Id: 50, Owner: 2, X: 4, Y: 3, Life: 49, Carry: 1, Job: impl.DoMove},
		{Id: 51, Owner: 3, X: 0, Y: 11, Life: 2, Carry: 19, Job: impl.DoMove, ToX: 11, ToY: 11},
		{Id: 7, Owner: 0, X: 11, Y: 0, Life: 10, Job: impl.DoMove, ToX: 5, ToY: 6},
		{Id: 98, Owner: 1, X: 1, Y: 1, Life: 50, Job: impl.DoHarvest},
		{Id: 3, Owner: 3, X: 6, Y: 7, Life: 12, Carry: 20, Job: impl.DoHarvest, Prey: 3},
		{Id: 4, Owner: impl.Nobody, X: 8, Y: 8, Life: 3, Job: impl.DoHarvest, Prey: 1},
		{Id: 5, Owner: 2, X: 9, Y: 2, Life: 30, Carry: 5, Job: impl.DoAttack, Prey: 1},
		{Id: 6, Owner: 0, X: 2, Y: 9, Life: 31, Job: impl.DoAttack, Prey: 99},
		{Id: 99, Owner: 3, X: 5, Y: 5, Life: 32, Job: impl.DoAttack, Prey: 98},
	}
}

func goodFields() []impl.Field {
	return []impl.Field{{X: 0, Y: 0, Left: 0}, {X: 11, Y: 11, Left: 10000}, {X: 3, Y: 8, Left: 77}, {X: 3, Y: 8, Left: 1}}
}

// boardOf has n units, whose Ids are 10, 20 and so on, of all owners in turn, and as many fields as are told.
func boardOf(n int, fields int) impl.Board {
	b := impl.Board{Fields: goodFields()[:fields:fields]}
	for i := range n {
		id := int64(10 * (i + 1))
		owner := []int64{0, 1, 2, 3, 9, 1, 1, 9}[i%8]
		b.Units = append(b.Units, impl.Unit{Id: id, Owner: owner, X: int64(i), Y: 11 - int64(i), Life: 50 - int64(i), Carry: int64(2*i + 1)})
	}
	return b
}

func goodBoards() []impl.Board {
	boards := []impl.Board{{}, {Units: []impl.Unit{}, Fields: []impl.Field{}}}
	for n := range 9 {
		boards = append(boards, boardOf(n, n%5), boardOf(n, 4-n%5))
	}
	jobs := impl.Board{Fields: goodFields()}
	for _, at := range []int{0, 2, 7, 8, 9, 10, 5, 1} {
		jobs.Units = append(jobs.Units, goodUnits()[at])
	}
	roomy := boardOf(5, 2)
	roomy.Units = append(make([]impl.Unit, 0, 12), roomy.Units...)
	roomy.Fields = append(make([]impl.Field, 0, 9), roomy.Fields...)
	return append(boards, jobs, roomy)
}

// faultyBoards have each a fault of their own.
func faultyBoards() []impl.Board {
	twice, falling, poor, far := boardOf(3, 2), boardOf(3, 2), boardOf(3, 2), boardOf(3, 2)
	twice.Units[1].Id = twice.Units[0].Id
	falling.Units[0], falling.Units[1] = falling.Units[1], falling.Units[0]
	poor.Units[2].Life = 0
	far.Fields = []impl.Field{{X: 1, Y: 12, Left: 5}}
	return []impl.Board{twice, falling, poor, far, boardOf(9, 0), {Fields: make([]impl.Field, 5)}}
}

func TestBoundsOfTheBoard(t *testing.T) {
	if impl.MaxUnits != 8 || impl.MaxFields != 4 || impl.MaxLife != 50 || impl.MaxCarry != 20 || impl.Nobody != 9 {
		t.Error("bounds", impl.MaxUnits, impl.MaxFields, impl.MaxLife, impl.MaxCarry, impl.Nobody)
	}
}

func TestUnitFaultsInTheirOrder(t *testing.T) {
	for _, u := range goodUnits() {
		if code := impl.UnitFault(u); code != impl.OK {
			t.Errorf("UnitFault(%+v): %d", u, code)
		}
	}
	for _, c := range []struct {
		unit impl.Unit
		code int64
	}{
		{impl.Unit{}, impl.ErrRange},
		{impl.Unit{Id: 1}, impl.ErrRange},
		{impl.Unit{Life: 1}, impl.ErrRange},
		{impl.Unit{Id: 100, Life: 1}, impl.ErrRange},
		{impl.Unit{Id: 1, Owner: 4, Life: 1}, impl.ErrRange},
		{impl.Unit{Id: 1, Owner: 8, Life: 1}, impl.ErrRange},
		{impl.Unit{Id: 1, Owner: 10, Life: 1}, impl.ErrRange},
		{impl.Unit{Id: 1, X: 12, Life: 1}, impl.ErrRange},
		{impl.Unit{Id: 1, Y: -1, Life: 1}, impl.ErrRange},
		{impl.Unit{Id: 1, Life: 51}, impl.ErrRange},
		{impl.Unit{Id: 1, Life: 1, Carry: 21}, impl.ErrRange},
		{impl.Unit{Id: 1, Life: 1, Carry: -1}, impl.ErrRange},
		{impl.Unit{Id: 1, Life: 1, Job: 4}, impl.ErrForm},
		{impl.Unit{Id: 1, Life: 1, Job: -1}, impl.ErrForm},
		{impl.Unit{Id: 1, Life: 1, Job: impl.DoLeave}, impl.ErrForm},
		{impl.Unit{Id: 1, Life: 1, ToX: 1}, impl.ErrForm},
		{impl.Unit{Id: 1, Life: 1, ToY: 1}, impl.ErrForm},
		{impl.Unit{Id: 1, Life: 1, Prey: 2}, impl.ErrForm},
		{impl.Unit{Id: 1, Life: 1, Job: impl.DoMove, Prey: 2}, impl.ErrForm},
		{impl.Unit{Id: 1, Life: 1, Job: impl.DoHarvest, ToX: 1}, impl.ErrForm},
		{impl.Unit{Id: 1, Life: 1, Job: impl.DoHarvest, ToY: 1}, impl.ErrForm},
		{impl.Unit{Id: 1, Life: 1, Job: impl.DoAttack, ToX: 1, Prey: 2}, impl.ErrForm},
		{impl.Unit{Id: 1, Life: 1, Job: impl.DoAttack, ToY: 1, Prey: 2}, impl.ErrForm},
		// What the job has not is out of bounds as well, or what it has is: the form is asked first.
		{impl.Unit{Id: 1, Life: 1, ToX: -1}, impl.ErrForm},
		{impl.Unit{Id: 1, Life: 1, Prey: 100}, impl.ErrForm},
		{impl.Unit{Id: 1, Life: 1, Job: impl.DoMove, ToX: 12, Prey: 1}, impl.ErrForm},
		{impl.Unit{Id: 1, Life: 1, Job: impl.DoHarvest, ToX: 12, Prey: 4}, impl.ErrForm},
		{impl.Unit{Id: 1, Life: 1, Job: impl.DoAttack, ToY: 3, Prey: 1}, impl.ErrForm},
		{impl.Unit{Id: 1, Life: 1, Job: 12, ToX: 12, Prey: 100}, impl.ErrForm},
		// The form is not so either, but these bounds are asked ahead of it.
		{impl.Unit{Id: 0, Life: 1, Job: 4}, impl.ErrRange},
		{impl.Unit{Id: 1, Owner: 5, Life: 1, Prey: 1}, impl.ErrRange},
		{impl.Unit{Id: 1, X: -1, Life: 1, Job: impl.DoMove, Prey: 1}, impl.ErrRange},
		{impl.Unit{Id: 1, Life: 0, ToX: 1}, impl.ErrRange},
		{impl.Unit{Id: 1, Life: 1, Carry: 21, Job: impl.DoAttack, ToX: 1}, impl.ErrRange},
		{impl.Unit{Id: 1, Life: 1, Job: impl.DoMove, ToX: 12}, impl.ErrRange},
		{impl.Unit{Id: 1, Life: 1, Job: impl.DoMove, ToY: -1}, impl.ErrRange},
		{impl.Unit{Id: 1, Life: 1, Job: impl.DoHarvest, Prey: 4}, impl.ErrRange},
		{impl.Unit{Id: 1, Life: 1, Job: impl.DoHarvest, Prey: -1}, impl.ErrRange},
		{impl.Unit{Id: 1, Life: 1, Job: impl.DoAttack, Prey: 0}, impl.ErrRange},
		{impl.Unit{Id: 1, Life: 1, Job: impl.DoAttack, Prey: 100}, impl.ErrRange},
		{impl.Unit{Id: 1, Life: 1, Job: impl.DoAttack, Prey: 1}, impl.ErrRange},
		{impl.Unit{Id: 99, Life: 1, Job: impl.DoAttack, Prey: 99}, impl.ErrRange},
		// Its own number is a field's, too.
		{impl.Unit{Id: 1, Life: 1, Job: impl.DoHarvest, Prey: 1}, impl.OK},
	} {
		if got := impl.UnitFault(c.unit); got != c.code {
			t.Errorf("UnitFault(%+v): got %d, want %d", c.unit, got, c.code)
		}
	}
}

// unitEdges are the ends of all bounds of each number of a unit, and what lies beyond.
func unitEdges() [10][]int64 {
	tile := append(outside(0, 11), 0, 1, 11)
	return [10][]int64{
		append(outside(1, 99), 1, 99),
		append(outside(0, 3), 0, 3, 8, 9, 10),
		tile, tile,
		append(outside(1, 50), 1, 50),
		append(outside(0, 20), 0, 20),
		append(outside(0, 3), 0, 1, 2, 3, 10, 11, 12),
		tile, tile,
		append(outside(1, 99), 1, 2, 3, 4, 5, 98, 99),
	}
}

// eachUnit calls try with good units of which up to three numbers stand at an edge, or beyond.
func eachUnit(try func(u impl.Unit)) {
	edges := unitEdges()
	for _, base := range goodUnits() {
		for i := range 10 {
			for j := i; j < 10; j++ {
				for _, v := range edges[i] {
					for _, w := range edges[j] {
						u := base
						*fieldsOfUnit(&u)[i], *fieldsOfUnit(&u)[j] = v, w
						try(u)
						for job := range int64(5) {
							u.Job = job
							try(u)
						}
					}
				}
			}
		}
	}
}

func TestEdgesOfEveryUnit(t *testing.T) {
	eachUnit(func(u impl.Unit) {
		if got, want := impl.UnitFault(u), unitFaultByHand(u); got != want {
			t.Fatalf("UnitFault(%+v): got %d, want %d", u, got, want)
		}
	})
}

func TestAUnitWithAFaultIsPutNowhere(t *testing.T) {
	full := boardOf(8, 4)
	eachUnit(func(u impl.Unit) {
		code := unitFaultByHand(u)
		if code == impl.OK {
			return
		}
		for _, b := range []impl.Board{{}, full} {
			if got := impl.PutUnit(b, u); got.Code != code || got.Board.Units != nil || got.Board.Fields != nil {
				t.Fatalf("PutUnit of %+v: got %+v, want code %d", u, got, code)
			}
		}
		if got := impl.BoardFault(impl.Board{Units: []impl.Unit{u}}); got != code {
			t.Fatalf("BoardFault of %+v: got %d, want %d", u, got, code)
		}
	})
}

func TestBoardFaultsInTheirOrder(t *testing.T) {
	for _, b := range goodBoards() {
		if code := impl.BoardFault(b); code != impl.OK {
			t.Errorf("BoardFault(%+v): %d", b, code)
		}
	}
	a, b, c := impl.Unit{Id: 1, Life: 1}, impl.Unit{Id: 2, Life: 1}, impl.Unit{Id: 3, Life: 1}
	noLife, noJob := impl.Unit{Id: 2}, impl.Unit{Id: 2, Life: 1, Job: 7}
	noField, noLeft := impl.Field{X: 12}, impl.Field{Left: 10001}
	units, fields := func(list ...impl.Unit) []impl.Unit { return list }, func(list ...impl.Field) []impl.Field { return list }
	for _, c := range []struct {
		board impl.Board
		code  int64
	}{
		{boardOf(8, 4), impl.OK},
		{boardOf(9, 4), impl.ErrMany},
		{impl.Board{Units: make([]impl.Unit, 9)}, impl.ErrMany},
		{impl.Board{Units: make([]impl.Unit, 5000)}, impl.ErrMany},
		{impl.Board{Fields: make([]impl.Field, 4)}, impl.OK},
		{impl.Board{Fields: make([]impl.Field, 5)}, impl.ErrMany},
		// There are faults of units as well, but how many fields there are is asked ahead of them.
		{impl.Board{Units: units(noLife), Fields: make([]impl.Field, 5)}, impl.ErrMany},
		{impl.Board{Units: units(b, a), Fields: fields(noField, noField, noField, noField, noField)}, impl.ErrMany},
		{impl.Board{Units: units(a, b, c)}, impl.OK},
		{impl.Board{Units: units(b, a, c)}, impl.ErrForm},
		{impl.Board{Units: units(a, c, b)}, impl.ErrForm},
		{impl.Board{Units: units(a, a)}, impl.ErrForm},
		{impl.Board{Units: units(a, b, b)}, impl.ErrForm},
		{impl.Board{Units: units(a, noLife)}, impl.ErrRange},
		{impl.Board{Units: units(a, noJob)}, impl.ErrForm},
		// Unit by unit: the first one with a fault tells it.
		{impl.Board{Units: units(c, a, noLife)}, impl.ErrForm},
		{impl.Board{Units: units(noLife, a)}, impl.ErrRange},
		{impl.Board{Units: units(a, noLife, a)}, impl.ErrRange},
		{impl.Board{Units: units(a, noJob, impl.Unit{})}, impl.ErrForm},
		// It does not rise, either, but its own fault is asked ahead of that.
		{impl.Board{Units: units(c, noLife)}, impl.ErrRange},
		{impl.Board{Units: units(a, impl.Unit{Id: 0, Life: 1})}, impl.ErrRange},
		// A fault of a field is asked behind those of all units.
		{impl.Board{Units: units(b, a), Fields: fields(noField)}, impl.ErrForm},
		{impl.Board{Units: units(a, noJob), Fields: fields(noLeft)}, impl.ErrForm},
		{impl.Board{Units: units(a), Fields: fields(noField)}, impl.ErrRange},
		{impl.Board{Units: units(a), Fields: fields(impl.Field{}, noLeft)}, impl.ErrRange},
		// Two may stand on one tile.
		{impl.Board{Units: units(a, b), Fields: fields(impl.Field{}, impl.Field{})}, impl.OK},
		// A field that is not there may be sought, and a unit that is not.
		{impl.Board{Units: units(impl.Unit{Id: 1, Life: 1, Job: impl.DoHarvest, Prey: 3}, impl.Unit{Id: 2, Life: 1, Job: impl.DoAttack, Prey: 77})}, impl.OK},
	} {
		if got := impl.BoardFault(c.board); got != c.code || got != boardFaultByHand(c.board) {
			t.Errorf("BoardFault(%+v): got %d, want %d", c.board, got, c.code)
		}
	}
}

func TestEdgesOfEveryFieldOfABoard(t *testing.T) {
	tile, left := append(outside(0, 11), 0, 11), append(outside(0, 10000), 0, 1, 10000)
	for at := range 4 {
		for _, x := range tile {
			for _, y := range tile {
				for _, l := range left {
					b := boardOf(2, 4)
					b.Fields = slices.Clone(b.Fields)
					b.Fields[at] = impl.Field{X: x, Y: y, Left: l}
					code, sum := boardFaultByHand(b), int64(0)
					for _, f := range b.Fields {
						sum += f.Left
					}
					if code != impl.OK {
						sum = 0
					}
					if got := impl.BoardFault(b); got != code {
						t.Errorf("BoardFault(%+v): got %d, want %d", b, got, code)
					}
					wantInt(t, fmt.Sprintf("LeftIn(%+v)", b), impl.LeftIn(b), code, sum)
				}
			}
		}
	}
}

func TestPutAheadBetweenBehindAndInPlace(t *testing.T) {
	at := func(id int64, owner int64) impl.Unit {
		return impl.Unit{Id: id, Owner: owner, Life: 9}
	}
	fields := goodFields()[:2]
	b := impl.Board{Units: []impl.Unit{at(10, 0), at(20, 1)}, Fields: fields}
	for _, c := range []struct {
		unit  impl.Unit
		units []impl.Unit
	}{
		{at(9, 2), []impl.Unit{at(9, 2), at(10, 0), at(20, 1)}},
		{at(15, 2), []impl.Unit{at(10, 0), at(15, 2), at(20, 1)}},
		{at(21, 2), []impl.Unit{at(10, 0), at(20, 1), at(21, 2)}},
		{at(10, 2), []impl.Unit{at(10, 2), at(20, 1)}},
		{at(20, 2), []impl.Unit{at(10, 0), at(20, 2)}},
	} {
		wantBoard(t, fmt.Sprintf("PutUnit of %+v", c.unit), impl.PutUnit(b, c.unit), impl.OK, impl.Board{Units: c.units, Fields: fields})
	}
}

func TestAPutUnitIsThereAndOthersAreAsTheyWere(t *testing.T) {
	for _, b := range goodBoards() {
		for id := int64(1); id <= 99; id++ {
			for _, u := range goodUnits() {
				u.Id = id
				if unitFaultByHand(u) != impl.OK {
					continue
				}
				checkPut(t, b, u)
			}
		}
	}
}

func checkPut(t *testing.T, b impl.Board, u impl.Unit) {
	t.Helper()
	call := fmt.Sprintf("PutUnit(%+v, %+v)", b, u)
	want, room := putByHand(b, u)
	got := impl.PutUnit(b, u)
	if !room {
		wantBoard(t, call, got, impl.ErrFull, impl.Board{})
		return
	}
	wantBoard(t, call, got, impl.OK, want)
	if code := impl.BoardFault(got.Board); code != impl.OK {
		t.Errorf("%s has the fault %d", call, code)
	}
	wantUnit(t, call, impl.UnitOf(got.Board, u.Id), impl.OK, u)
	for _, other := range b.Units {
		if other.Id != u.Id {
			wantUnit(t, call, impl.UnitOf(got.Board, other.Id), impl.OK, other)
		}
	}
}

func TestAFullBoardHasRoomForItsOwnIdsAlone(t *testing.T) {
	full := boardOf(8, 1)
	for id := int64(1); id <= 99; id++ {
		u := impl.Unit{Id: id, Owner: 3, Life: 33}
		got := impl.PutUnit(full, u)
		if id%10 == 0 && id <= 80 {
			want := boardOf(8, 1)
			want.Units[id/10-1] = u
			wantBoard(t, fmt.Sprintf("PutUnit of %d", id), got, impl.OK, want)
		} else {
			wantBoard(t, fmt.Sprintf("PutUnit of %d", id), got, impl.ErrFull, impl.Board{})
		}
	}
	// Its own fault is asked ahead of the room.
	wantBoard(t, "PutUnit of what has no Life", impl.PutUnit(full, impl.Unit{Id: 5}), impl.ErrRange, impl.Board{})
	wantBoard(t, "PutUnit of what has no Job", impl.PutUnit(full, impl.Unit{Id: 5, Life: 1, Job: 9}), impl.ErrForm, impl.Board{})
	seven := boardOf(7, 0)
	wantInt(t, "one more of seven", impl.IntResult{Value: int64(len(impl.PutUnit(seven, impl.Unit{Id: 5, Life: 1}).Board.Units))}, impl.OK, 8)
}

func TestUnitOf(t *testing.T) {
	for _, b := range goodBoards() {
		units := map[int64]impl.Unit{}
		for _, u := range b.Units {
			units[u.Id] = u
		}
		for _, id := range append(outside(1, 99), 0, 100, -10, 256+10, 1<<32+10) {
			wantUnit(t, fmt.Sprintf("UnitOf(%+v, %d)", b, id), impl.UnitOf(b, id), impl.ErrNone, impl.Unit{})
		}
		for id := int64(1); id <= 99; id++ {
			code := int64(impl.OK)
			if _, ok := units[id]; !ok {
				code = impl.ErrNone
			}
			wantUnit(t, fmt.Sprintf("UnitOf(%+v, %d)", b, id), impl.UnitOf(b, id), code, units[id])
		}
	}
}

func TestOwnersByHand(t *testing.T) {
	b := boardOf(8, 4)
	wantInts(t, "OwnedBy 0", impl.OwnedBy(b, 0), impl.OK, 10)
	wantInts(t, "OwnedBy 1", impl.OwnedBy(b, 1), impl.OK, 20, 60, 70)
	wantInts(t, "OwnedBy 2", impl.OwnedBy(b, 2), impl.OK, 30)
	wantInts(t, "OwnedBy 3", impl.OwnedBy(b, 3), impl.OK, 40)
	wantInts(t, "OwnedBy Nobody", impl.OwnedBy(b, impl.Nobody), impl.OK, 50, 80)
	wantInt(t, "CarriedBy 0", impl.CarriedBy(b, 0), impl.OK, 1)
	wantInt(t, "CarriedBy 1", impl.CarriedBy(b, 1), impl.OK, 3+11+13)
	wantInt(t, "CarriedBy Nobody", impl.CarriedBy(b, impl.Nobody), impl.OK, 9+15)
	wantInt(t, "LeftIn", impl.LeftIn(b), impl.OK, 10078)
	wantInts(t, "OwnedBy of a few", impl.OwnedBy(boardOf(2, 0), 3), impl.OK)
	wantInt(t, "CarriedBy of a few", impl.CarriedBy(boardOf(2, 0), 3), impl.OK, 0)
	full := boardOf(8, 0)
	for i := range full.Units {
		full.Units[i].Owner, full.Units[i].Carry = 2, 20
	}
	full.Fields = []impl.Field{{Left: 10000}, {Left: 10000}, {Left: 10000}, {Left: 10000}}
	wantInts(t, "OwnedBy of all", impl.OwnedBy(full, 2), impl.OK, 10, 20, 30, 40, 50, 60, 70, 80)
	wantInt(t, "CarriedBy of all", impl.CarriedBy(full, 2), impl.OK, 160)
	wantInt(t, "LeftIn of all", impl.LeftIn(full), impl.OK, 40000)
	for _, b := range []impl.Board{{}, {Units: []impl.Unit{}, Fields: []impl.Field{}}} {
		wantInt(t, "LeftIn of nothing", impl.LeftIn(b), impl.OK, 0)
		wantInt(t, "CarriedBy of nothing", impl.CarriedBy(b, 0), impl.OK, 0)
		wantInts(t, "OwnedBy of nothing", impl.OwnedBy(b, impl.Nobody), impl.OK)
	}
}

func TestOwnersOfEveryBoard(t *testing.T) {
	for _, b := range goodBoards() {
		count, carried := 0, int64(0)
		for _, owner := range []int64{0, 1, 2, 3, impl.Nobody} {
			ids, sum := []int64{}, int64(0)
			for _, u := range b.Units {
				if u.Owner == owner {
					ids, sum = append(ids, u.Id), sum+u.Carry
				}
			}
			wantInts(t, fmt.Sprintf("OwnedBy(%+v, %d)", b, owner), impl.OwnedBy(b, owner), impl.OK, ids...)
			wantInt(t, fmt.Sprintf("CarriedBy(%+v, %d)", b, owner), impl.CarriedBy(b, owner), impl.OK, sum)
			count, carried = count+len(ids), carried+sum
		}
		if count != len(b.Units) {
			t.Errorf("%d of the units of %+v have an owner", count, b)
		}
		for _, owner := range append(outside(0, 3), 5, 6, 7, 8, 10, 255, -9, 256+9) {
			wantInts(t, fmt.Sprintf("OwnedBy(%+v, %d)", b, owner), impl.OwnedBy(b, owner), impl.ErrRange)
			wantInt(t, fmt.Sprintf("CarriedBy(%+v, %d)", b, owner), impl.CarriedBy(b, owner), impl.ErrRange, 0)
		}
	}
}

func TestTheBoardIsAskedFirst(t *testing.T) {
	for _, b := range faultyBoards() {
		code := boardFaultByHand(b)
		if code == impl.OK {
			t.Fatalf("no fault in %+v", b)
		}
		call := fmt.Sprintf("of %+v", b)
		for _, id := range []int64{10, 11, -1, 100} {
			wantUnit(t, "UnitOf "+call, impl.UnitOf(b, id), code, impl.Unit{})
		}
		for _, u := range append(goodUnits(), impl.Unit{}, impl.Unit{Id: 10, Life: 3}, impl.Unit{Id: 1, Life: 1, Job: 9}) {
			wantBoard(t, "PutUnit "+call, impl.PutUnit(b, u), code, impl.Board{})
		}
		for _, owner := range []int64{0, 3, 4, 9, 10, math.MinInt64} {
			wantInts(t, "OwnedBy "+call, impl.OwnedBy(b, owner), code)
			wantInt(t, "CarriedBy "+call, impl.CarriedBy(b, owner), code, 0)
		}
		wantInt(t, "LeftIn "+call, impl.LeftIn(b), code, 0)
	}
}

func TestSameBoards(t *testing.T) {
	same := func(a impl.Board, b impl.Board, want bool) {
		t.Helper()
		if impl.SameBoards(a, b) != want || impl.SameBoards(b, a) != want {
			t.Errorf("SameBoards of %+v and %+v is not %t", a, b, want)
		}
	}
	// Boards with faults are held against each other as well.
	boards := append(goodBoards()[2:], faultyBoards()...)
	for i, a := range boards {
		same(a, copyOf(a), true)
		for j, b := range boards {
			if i != j {
				same(a, b, fmt.Sprint(a) == fmt.Sprint(b))
			}
		}
	}
	same(impl.Board{}, impl.Board{}, true)
	same(impl.Board{}, impl.Board{Units: []impl.Unit{}, Fields: []impl.Field{}}, true)
	same(impl.Board{}, impl.Board{Units: []impl.Unit{{}}}, false)
	same(impl.Board{}, impl.Board{Fields: []impl.Field{{}}}, false)
	same(boardOf(3, 2), boardOf(4, 2), false)
	same(boardOf(3, 2), boardOf(3, 3), false)
	turned := boardOf(3, 2)
	turned.Units[0], turned.Units[2] = turned.Units[2], turned.Units[0]
	same(boardOf(3, 2), turned, false)
}

func TestOneNumberOfABoardDiffers(t *testing.T) {
	a := boardOf(4, 3)
	for _, by := range []int64{1, -1, 256, 1 << 32, math.MinInt64} {
		for i := range a.Units {
			for field := range 10 {
				b := copyOf(a)
				*fieldsOfUnit(&b.Units[i])[field] += by
				if impl.SameBoards(a, b) || impl.SameBoards(b, a) {
					t.Errorf("unit %d, number %d and %d more: the same", i, field, by)
				}
			}
		}
		for i := range a.Fields {
			for field := range 3 {
				b := copyOf(a)
				f := &b.Fields[i]
				*[]*int64{&f.X, &f.Y, &f.Left}[field] += by
				if impl.SameBoards(a, b) || impl.SameBoards(b, a) {
					t.Errorf("field %d, number %d and %d more: the same", i, field, by)
				}
			}
		}
	}
}

func boardAnswers(b impl.Board, u impl.Unit) []any {
	return []any{
		impl.UnitFault(u), impl.BoardFault(b), impl.UnitOf(b, u.Id), impl.PutUnit(b, u), impl.OwnedBy(b, u.Owner),
		impl.CarriedBy(b, u.Owner), impl.LeftIn(b), impl.SameBoards(b, impl.Board{}), impl.SameBoards(b, b),
	}
}

func TestBoardsHangOnTheirArgumentsAlone(t *testing.T) {
	boards := append(goodBoards(), faultyBoards()...)
	units := append(goodUnits(), impl.Unit{}, impl.Unit{Id: 3, Life: 4, Job: 5, ToX: -1}, impl.Unit{Id: 10, Owner: 4, Life: 60})
	var first [][]any
	for _, b := range boards {
		for _, u := range units {
			first = append(first, boardAnswers(b, u))
		}
	}
	for i := len(first) - 1; i >= 0; i-- {
		b, u := boards[i/len(units)], units[i%len(units)]
		if again := boardAnswers(b, u); !reflect.DeepEqual(again, first[i]) {
			t.Errorf("of %+v and %+v: first %v, then %v", b, u, first[i], again)
		}
	}
}

func TestBoardsAreNotChanged(t *testing.T) {
	for _, b := range append(goodBoards(), faultyBoards()...) {
		before := copyOf(b)
		for _, u := range append(goodUnits(), impl.Unit{Id: 10, Life: 7}, impl.Unit{}) {
			boardAnswers(b, u)
			units, fields := b.Units[:cap(b.Units)], b.Fields[:cap(b.Fields)]
			if !slices.Equal(units, before.Units[:len(units)]) || !slices.Equal(fields, before.Fields[:len(fields)]) {
				t.Fatalf("%+v was turned into %+v", before, b)
			}
		}
	}
}

func TestAnAnsweredBoardIsNewMemory(t *testing.T) {
	spoil := func(b impl.Board) {
		units, fields := b.Units[:cap(b.Units)], b.Fields[:cap(b.Fields)]
		for i := range units {
			units[i] = impl.Unit{Id: 77, Prey: -1}
		}
		for i := range fields {
			fields[i] = impl.Field{Left: -1}
		}
	}
	for i := range goodBoards() {
		for _, u := range append(goodUnits(), impl.Unit{Id: 10, Life: 7}) {
			b := goodBoards()[i]
			want, room := putByHand(b, u)
			if !room {
				continue
			}
			before, first, second := copyOf(b), impl.PutUnit(b, u), impl.PutUnit(b, u)
			spoil(first.Board)
			if !sameLists(b, before) {
				t.Fatalf("what was answered of %+v shares memory with it", before)
			}
			wantBoard(t, "PutUnit that was there already", second, impl.OK, want)
			spoil(b)
			wantBoard(t, "PutUnit whose board was spoiled", second, impl.OK, want)
		}
	}
}

func TestIdsOfAnOwnerAreNewMemory(t *testing.T) {
	b := boardOf(8, 4)
	before, first, second := copyOf(b), impl.OwnedBy(b, 1), impl.OwnedBy(b, 1)
	behind := first.List[:cap(first.List)]
	for i := range behind {
		behind[i] = -5
	}
	wantInts(t, "OwnedBy that was there already", second, impl.OK, 20, 60, 70)
	wantInts(t, "OwnedBy again", impl.OwnedBy(b, 1), impl.OK, 20, 60, 70)
	if !sameLists(b, before) {
		t.Error("OwnedBy shares memory with the board")
	}
}
