package tests

import (
	"fmt"
	"math"
	"reflect"
	"slices"
	"testing"

	"loop.example/g00646/impl"
)

// handTick is a board in ticks as the document tells them, in lists alone.
type handTick struct {
	units  []impl.Unit
	fields []impl.Field
	rooms  [4]int64
	gains  [4]int64
	lost   int64
}

func handOf(b impl.Board, rooms []int64) *handTick {
	h := &handTick{units: append([]impl.Unit{}, b.Units...), fields: append([]impl.Field{}, b.Fields...)}
	copy(h.rooms[:], rooms)
	return h
}

func (h *handTick) result() impl.TickResult {
	return impl.TickResult{Gains: h.gains[:], Lost: h.lost, Board: impl.Board{Units: h.units, Fields: h.fields}}
}

func (h *handTick) find(id int64) *impl.Unit {
	for i := range h.units {
		if h.units[i].Id == id {
			return &h.units[i]
		}
	}
	return nil
}

func (h *handTick) remove(id int64) {
	var others []impl.Unit
	for _, u := range h.units {
		if u.Id != id {
			others = append(others, u)
		}
	}
	h.units = others
}

func stopByHand(u *impl.Unit) {
	*u = impl.Unit{Id: u.Id, Owner: u.Owner, X: u.X, Y: u.Y, Life: u.Life, Carry: u.Carry}
}

func signOf(v int64) int64 {
	switch {
	case v < 0:
		return -1
	case v > 0:
		return 1
	}
	return 0
}

func nearByHand(u *impl.Unit, x int64, y int64) {
	u.X, u.Y = u.X+signOf(x-u.X), u.Y+signOf(y-u.Y)
}

func (h *handTick) unit(id int64) {
	u := h.find(id)
	if u == nil || u.Owner == 9 {
		return
	}
	switch u.Job {
	case 1:
		if u.X == u.ToX && u.Y == u.ToY {
			stopByHand(u)
		} else {
			nearByHand(u, u.ToX, u.ToY)
		}
	case 2:
		h.harvest(u)
	case 3:
		h.attack(u)
	}
}

func (h *handTick) harvest(u *impl.Unit) {
	if int(u.Prey) >= len(h.fields) {
		stopByHand(u)
		return
	}
	f := &h.fields[u.Prey]
	home := [4][2]int64{{0, 0}, {11, 0}, {0, 11}, {11, 11}}[u.Owner]
	if u.Carry == 20 || u.Carry > 0 && f.Left == 0 {
		if u.X != home[0] || u.Y != home[1] {
			nearByHand(u, home[0], home[1])
			return
		}
		for u.Carry > 0 && h.rooms[u.Owner] > 0 {
			u.Carry--
			h.rooms[u.Owner]--
			h.gains[u.Owner]++
		}
		return
	}
	if f.Left == 0 {
		stopByHand(u)
		return
	}
	if u.X != f.X || u.Y != f.Y {
		nearByHand(u, f.X, f.Y)
		return
	}
	for took := 0; took < 5 && f.Left > 0 && u.Carry < 20; took++ {
		u.Carry++
		f.Left--
	}
}

func (h *handTick) attack(u *impl.Unit) {
	prey := h.find(u.Prey)
	if prey == nil || prey.Owner == u.Owner {
		stopByHand(u)
		return
	}
	if !within(u.X-prey.X, -1, 1) || !within(u.Y-prey.Y, -1, 1) {
		nearByHand(u, prey.X, prey.Y)
		return
	}
	if prey.Life > 7 {
		prey.Life -= 7
		return
	}
	h.lost += prey.Carry
	h.remove(prey.Id)
}

func (h *handTick) board(n int64) {
	for range n {
		for id := int64(1); id <= 99; id++ {
			h.unit(id)
		}
	}
}

func roomsFaultByHand(b impl.Board, rooms []int64) int64 {
	if code := boardFaultByHand(b); code != impl.OK {
		return code
	}
	if len(rooms) != 4 {
		return impl.ErrMany
	}
	for _, room := range rooms {
		if !within(room, 0, 1000000) {
			return impl.ErrRange
		}
	}
	return impl.OK
}

func tickUnitByHand(b impl.Board, id int64, rooms []int64) impl.TickResult {
	if code := roomsFaultByHand(b, rooms); code != impl.OK {
		return impl.TickResult{Code: code}
	}
	h := handOf(b, rooms)
	if h.find(id) == nil {
		return impl.TickResult{Code: impl.ErrNone}
	}
	h.unit(id)
	return h.result()
}

func tickManyByHand(b impl.Board, rooms []int64, n int64) impl.TickResult {
	if code := roomsFaultByHand(b, rooms); code != impl.OK {
		return impl.TickResult{Code: code}
	}
	if !within(n, 0, 20) {
		return impl.TickResult{Code: impl.ErrRange}
	}
	h := handOf(b, rooms)
	h.board(n)
	return h.result()
}

func wantTick(t *testing.T, call string, got impl.TickResult, want impl.TickResult) {
	t.Helper()
	if got.Code != want.Code || got.Lost != want.Lost || !slices.Equal(got.Gains, want.Gains) || !sameLists(got.Board, want.Board) {
		t.Errorf("%s: got %+v, want %+v", call, got, want)
	}
}

// wantTickFault asks for a code, and that all else is zero.
func wantTickFault(t *testing.T, call string, got impl.TickResult, code int64) {
	t.Helper()
	if got.Code != code || got.Gains != nil || got.Lost != 0 || got.Board.Units != nil || got.Board.Fields != nil {
		t.Errorf("%s: got %+v, want code %d and nothing else", call, got, code)
	}
}

func manyRooms() []int64 {
	return []int64{1000, 1000, 1000, 1000}
}

func lessOf(rooms []int64, gains []int64) []int64 {
	less := slices.Clone(rooms)
	for i := range less {
		less[i] -= gains[i]
	}
	return less
}

// togetherOf is what is carried and left on a board.
func togetherOf(b impl.Board) int64 {
	sum := int64(0)
	for _, u := range b.Units {
		sum += u.Carry
	}
	for _, f := range b.Fields {
		sum += f.Left
	}
	return sum
}

func totalOf(list []int64) int64 {
	sum := int64(0)
	for _, v := range list {
		sum += v
	}
	return sum
}

// dice are numbers that come in the same order each time.
type dice uint64

func (d *dice) roll(n int64) int64 {
	*d = *d*6364136223846793005 + 1442695040888963407
	return int64(uint64(*d)>>33) % n
}

func (d *dice) pick(list ...int64) int64 {
	return list[d.roll(int64(len(list)))]
}

// unit is one of a narrow part of the board, so that many meet, with numbers near their edges.
func (d *dice) unit(id int64) impl.Unit {
	u := impl.Unit{Id: id, Owner: d.pick(0, 0, 1, 1, 2, 3, 9), X: d.roll(4), Y: d.roll(4), Life: d.pick(1, 6, 7, 8, 14, 15, 50), Carry: d.pick(0, 0, 1, 15, 16, 19, 20)}
	if d.roll(4) == 0 {
		u.X, u.Y = d.pick(0, 1, 10, 11), d.pick(0, 1, 10, 11)
	}
	u.Job = d.roll(4)
	switch u.Job {
	case impl.DoMove:
		u.ToX, u.ToY = d.roll(12), d.roll(12)
	case impl.DoHarvest:
		u.Prey = d.roll(4)
	case impl.DoAttack:
		u.Prey = d.roll(9) + 1
		if u.Prey == id {
			u.Prey = 99
		}
	}
	return u
}

func (d *dice) board() impl.Board {
	var b impl.Board
	for id := int64(1); id <= 9; id++ {
		if len(b.Units) < impl.MaxUnits && d.roll(4) > 0 {
			b.Units = append(b.Units, d.unit(id))
		}
	}
	for range d.roll(5) {
		b.Fields = append(b.Fields, impl.Field{X: d.roll(4), Y: d.roll(4), Left: d.pick(0, 1, 4, 5, 6, 20, 10000)})
	}
	return b
}

func (d *dice) rooms() []int64 {
	rooms := make([]int64, 4)
	for i := range rooms {
		rooms[i] = d.pick(0, 1, 4, 5, 19, 20, 21, 1000, 1000000)
	}
	return rooms
}

// tickBoards are those of the board's own tests, and many whose units meet.
func tickBoards(n int) []impl.Board {
	boards, d := goodBoards(), dice(7)
	for range n {
		boards = append(boards, d.board())
	}
	return boards
}

func TestBoundsOfTicks(t *testing.T) {
	if impl.MaxTake != 5 || impl.MaxHit != 7 {
		t.Error("bounds", impl.MaxTake, impl.MaxHit)
	}
}

func TestHomeOf(t *testing.T) {
	wantTile(t, "HomeOf 0", impl.HomeOf(0), impl.OK, 0, 0)
	wantTile(t, "HomeOf 1", impl.HomeOf(1), impl.OK, 11, 0)
	wantTile(t, "HomeOf 2", impl.HomeOf(2), impl.OK, 0, 11)
	wantTile(t, "HomeOf 3", impl.HomeOf(3), impl.OK, 11, 11)
	for _, owner := range append(outside(0, 3), impl.Nobody, 256, 1<<32, -1<<32+1) {
		wantTile(t, fmt.Sprint("HomeOf ", owner), impl.HomeOf(owner), impl.ErrRange, 0, 0)
	}
}

// unitTrace ticks the first unit again and again, and asks for it as it is told, turn by turn.
func unitTrace(t *testing.T, b impl.Board, rooms []int64, units ...impl.Unit) impl.TickResult {
	t.Helper()
	last := impl.TickResult{Gains: make([]int64, 4), Board: b}
	for i, u := range units {
		left := lessOf(rooms, last.Gains)
		got := impl.TickUnit(last.Board, u.Id, left)
		wantTick(t, fmt.Sprint("turn ", i), got, tickUnitByHand(last.Board, u.Id, left))
		if now := impl.UnitOf(got.Board, u.Id); now.Code != impl.OK || now.Unit != u {
			t.Fatalf("turn %d: got %+v, want %+v", i, now, u)
		}
		for side := range got.Gains {
			got.Gains[side] += last.Gains[side]
		}
		got.Lost += last.Lost
		last = got
	}
	return last
}

func TestWhoGoesTurnByTurn(t *testing.T) {
	at := func(x int64, y int64) impl.Unit {
		return impl.Unit{Id: 5, Owner: 2, X: x, Y: y, Life: 3, Carry: 4, Job: impl.DoMove, ToX: 5, ToY: 7}
	}
	done := impl.Unit{Id: 5, Owner: 2, X: 5, Y: 7, Life: 3, Carry: 4}
	unitTrace(t, impl.Board{Units: []impl.Unit{at(4, 10)}}, manyRooms(), at(5, 9), at(5, 8), at(5, 7), done, done)
	unitTrace(t, impl.Board{Units: []impl.Unit{at(7, 5)}}, manyRooms(), at(6, 6), at(5, 7), done)
	unitTrace(t, impl.Board{Units: []impl.Unit{at(5, 6)}}, manyRooms(), at(5, 7), done)
	// In one of both it is there already.
	unitTrace(t, impl.Board{Units: []impl.Unit{at(6, 7)}}, manyRooms(), at(5, 7), done)
	unitTrace(t, impl.Board{Units: []impl.Unit{at(5, 7)}}, manyRooms(), done)
	home := impl.Unit{Id: 1, X: 1, Y: 1, Life: 1, Carry: 20, Job: impl.DoMove}
	there, rests := home, home
	there.X, there.Y = 0, 0
	rests.X, rests.Y, rests.Job = 0, 0, 0
	// Only who harvests gives at home.
	if last := unitTrace(t, impl.Board{Units: []impl.Unit{home}}, manyRooms(), there, rests); totalOf(last.Gains) != 0 {
		t.Error("who goes gave", last.Gains)
	}
}

func TestWhoHarvestsTurnByTurn(t *testing.T) {
	at := func(x int64, y int64, carry int64) impl.Unit {
		return impl.Unit{Id: 3, Owner: 1, X: x, Y: y, Life: 2, Carry: carry, Job: impl.DoHarvest, Prey: 1}
	}
	b := impl.Board{Units: []impl.Unit{at(9, 3, 0)}, Fields: []impl.Field{{X: 1, Y: 1, Left: 50}, {X: 10, Y: 1, Left: 23}}}
	last := unitTrace(t, b, manyRooms(),
		at(10, 2, 0), at(10, 1, 0), at(10, 1, 5), at(10, 1, 10), at(10, 1, 15), at(10, 1, 20),
		at(11, 0, 20), at(11, 0, 0),
		at(10, 1, 0), at(10, 1, 3), at(11, 0, 3), at(11, 0, 0),
		impl.Unit{Id: 3, Owner: 1, X: 11, Y: 0, Life: 2}, impl.Unit{Id: 3, Owner: 1, X: 11, Y: 0, Life: 2})
	if !slices.Equal(last.Gains, []int64{0, 23, 0, 0}) || last.Lost != 0 || last.Board.Fields[1].Left != 0 || last.Board.Fields[0].Left != 50 {
		t.Errorf("harvested: %+v", last)
	}
}

func TestWhoAttacksTurnByTurn(t *testing.T) {
	at := func(x int64, y int64) impl.Unit {
		return impl.Unit{Id: 8, Owner: 3, X: x, Y: y, Life: 1, Carry: 2, Job: impl.DoAttack, Prey: 6}
	}
	prey := impl.Unit{Id: 6, Owner: 0, X: 4, Y: 4, Life: 15, Carry: 11}
	b := impl.Board{Units: []impl.Unit{prey, at(7, 2)}}
	done := impl.Unit{Id: 8, Owner: 3, X: 5, Y: 4, Life: 1, Carry: 2}
	last := unitTrace(t, b, manyRooms(), at(6, 3), at(5, 4), at(5, 4), at(5, 4), at(5, 4), done)
	if last.Lost != 11 || totalOf(last.Gains) != 0 || len(last.Board.Units) != 1 {
		t.Errorf("attacked: %+v", last)
	}
	lives := []int64{15, 15, 8, 1}
	for n, life := range lives {
		if got := impl.TickMany(b, manyRooms(), int64(n+1)).Board.Units[0].Life; got != life {
			t.Errorf("Life after %d: got %d, want %d", n+1, got, life)
		}
	}
}

func TestHarvestsAtTheirEdges(t *testing.T) {
	const far, field, home = 5, 7, 11 // x of a tile in y 11, on the way of owner 3
	for _, c := range []struct {
		at, carry, left, room    int64
		x, carries, leaves, gain int64
		works                    bool
	}{
		// At the field: MaxTake, what is left, what may still be carried, whichever is least.
		{field, 0, 0, 100, field, 0, 0, 0, false},
		{field, 0, 1, 100, field, 1, 0, 0, true},
		{field, 0, 4, 100, field, 4, 0, 0, true},
		{field, 0, 5, 100, field, 5, 0, 0, true},
		{field, 0, 6, 100, field, 5, 1, 0, true},
		{field, 0, 10000, 100, field, 5, 9995, 0, true},
		{field, 15, 10000, 100, field, 20, 9995, 0, true},
		{field, 16, 10000, 100, field, 20, 9996, 0, true},
		{field, 16, 3, 100, field, 19, 0, 0, true},
		{field, 19, 10000, 100, field, 20, 9999, 0, true},
		{field, 19, 1, 100, field, 20, 0, 0, true},
		{field, 19, 0, 100, field + 1, 19, 0, 0, true},
		{field, 1, 0, 100, field + 1, 1, 0, 0, true},
		{field, 20, 10000, 100, field + 1, 20, 10000, 0, true},
		{field, 20, 0, 100, field + 1, 20, 0, 0, true},
		// Elsewhere.
		{far, 0, 0, 100, far, 0, 0, 0, false},
		{far, 0, 1, 100, far + 1, 0, 1, 0, true},
		{far, 19, 1, 100, far + 1, 19, 1, 0, true},
		{far, 20, 1, 100, far + 1, 20, 1, 0, true},
		{far, 1, 0, 100, far + 1, 1, 0, 0, true},
		{home - 1, 19, 1, 100, home - 2, 19, 1, 0, true},
		{home - 1, 20, 1, 100, home, 20, 1, 0, true},
		{home - 1, 1, 0, 100, home, 1, 0, 0, true},
		// At home: no more than its room.
		{home, 20, 9, 100, home, 0, 9, 20, true},
		{home, 20, 9, 21, home, 0, 9, 20, true},
		{home, 20, 9, 20, home, 0, 9, 20, true},
		{home, 20, 9, 19, home, 1, 9, 19, true},
		{home, 20, 9, 1, home, 19, 9, 1, true},
		{home, 20, 9, 0, home, 20, 9, 0, true},
		{home, 20, 0, 0, home, 20, 0, 0, true},
		{home, 1, 0, 0, home, 1, 0, 0, true},
		{home, 1, 0, 1, home, 0, 0, 1, true},
		{home, 7, 0, 3, home, 4, 0, 3, true},
		{home, 7, 0, 1000000, home, 0, 0, 7, true},
		// What is carried is given only where it is time to.
		{home, 19, 1, 100, home - 1, 19, 1, 0, true},
		{home, 0, 1, 100, home - 1, 0, 1, 0, true},
		{home, 0, 0, 100, home, 0, 0, 0, false},
	} {
		u := impl.Unit{Id: 4, Owner: 3, X: c.at, Y: 11, Life: 5, Carry: c.carry, Job: impl.DoHarvest, Prey: 2}
		fields := []impl.Field{{X: 1, Y: 1, Left: 8}, {X: field, Y: 11, Left: 9}, {X: field, Y: 11, Left: c.left}}
		b := impl.Board{Units: []impl.Unit{u}, Fields: fields}
		u.X, u.Carry = c.x, c.carries
		if !c.works {
			u.Job, u.Prey = 0, 0
		}
		left := slices.Clone(fields)
		left[2].Left = c.leaves
		want := impl.TickResult{Gains: []int64{0, 0, 0, c.gain}, Board: impl.Board{Units: []impl.Unit{u}, Fields: left}}
		rooms := []int64{50, 51, 52, c.room}
		wantTick(t, fmt.Sprintf("TickUnit, %+v", c), impl.TickUnit(b, 4, rooms), want)
		wantTick(t, fmt.Sprintf("TickBoard, %+v", c), impl.TickBoard(b, rooms), want)
		wantTick(t, fmt.Sprintf("TickMany, %+v", c), impl.TickMany(b, rooms, 1), want)
	}
}

func TestEachOwnerGivesAtItsOwnHome(t *testing.T) {
	homes := [][2]int64{{0, 0}, {11, 0}, {0, 11}, {11, 11}}
	rooms := []int64{3, 4, 5, 6}
	for owner := range int64(4) {
		for at, tile := range homes {
			u := impl.Unit{Id: 1, Owner: owner, X: tile[0], Y: tile[1], Life: 1, Carry: 20, Job: impl.DoHarvest}
			b := impl.Board{Units: []impl.Unit{u}, Fields: []impl.Field{{X: 5, Y: 5, Left: 1}}}
			want := impl.TickResult{Gains: make([]int64, 4), Board: copyOf(b)}
			now := &want.Board.Units[0]
			if int64(at) == owner {
				want.Gains[owner] = rooms[owner]
				now.Carry -= rooms[owner]
			} else {
				now.X, now.Y = now.X+signOf(homes[owner][0]-now.X), now.Y+signOf(homes[owner][1]-now.Y)
			}
			wantTick(t, fmt.Sprintf("owner %d at home %d", owner, at), impl.TickUnit(b, 1, rooms), want)
		}
	}
}

func TestAFieldThatThereIsNot(t *testing.T) {
	for _, carry := range []int64{0, 1, 19, 20} {
		for prey := range int64(4) {
			for count := range 5 {
				u := impl.Unit{Id: 1, Owner: 0, X: 6, Y: 6, Life: 1, Carry: carry, Job: impl.DoHarvest, Prey: prey}
				b := impl.Board{Units: []impl.Unit{u}, Fields: goodFields()[:count]}
				got := impl.TickUnit(b, 1, manyRooms())
				wantTick(t, fmt.Sprintf("field %d of %d", prey, count), got, tickUnitByHand(b, 1, manyRooms()))
				stopByHand(&u)
				if rests := got.Board.Units[0] == u; prey >= int64(count) && !rests {
					t.Errorf("field %d of %d: %+v", prey, count, got)
				}
			}
		}
	}
}

func TestAttacksAtTheirEdges(t *testing.T) {
	for _, c := range []struct {
		x, y, life, left int64
	}{
		{5, 5, 1, 0}, {5, 5, 6, 0}, {5, 5, 7, 0}, {5, 5, 8, 1}, {5, 5, 50, 43},
		{6, 5, 7, 0}, {6, 5, 8, 1}, {4, 4, 7, 0}, {4, 6, 9, 2}, {6, 6, 50, 43}, {5, 4, 14, 7}, {5, 6, 2, 0}, {4, 5, 8, 1}, {6, 4, 8, 1},
		// Two away in x, in y, or in both.
		{7, 5, 1, 1}, {3, 5, 7, 7}, {5, 7, 8, 8}, {5, 3, 1, 1}, {7, 7, 50, 50}, {6, 7, 1, 1}, {3, 4, 1, 1}, {11, 0, 7, 7},
	} {
		for _, owner := range []int64{0, 1, 3, impl.Nobody} {
			u := impl.Unit{Id: 2, Owner: 2, X: 5, Y: 5, Life: 3, Carry: 8, Job: impl.DoAttack, Prey: 9}
			prey := impl.Unit{Id: 9, Owner: owner, X: c.x, Y: c.y, Life: c.life, Carry: 13, Job: impl.DoMove}
			other := impl.Unit{Id: 10, Owner: 1, X: 5, Y: 5, Life: 1, Carry: 1}
			b := impl.Board{Units: []impl.Unit{u, prey, other}, Fields: goodFields()}
			want := impl.TickResult{Gains: make([]int64, 4)}
			if !within(c.x, 4, 6) || !within(c.y, 4, 6) {
				nearByHand(&u, c.x, c.y)
			}
			prey.Life = c.left
			units := []impl.Unit{u, prey, other}
			if c.left == 0 {
				want.Lost, units = 13, []impl.Unit{u, other}
			}
			want.Board = impl.Board{Units: units, Fields: goodFields()}
			wantTick(t, fmt.Sprintf("%+v of %d", c, owner), impl.TickUnit(b, 2, manyRooms()), want)
		}
	}
}

func TestAPreyThatIsNoneAnyMore(t *testing.T) {
	u := impl.Unit{Id: 2, Owner: 2, X: 5, Y: 5, Life: 3, Carry: 8, Job: impl.DoAttack, Prey: 9}
	rests := impl.Unit{Id: 2, Owner: 2, X: 5, Y: 5, Life: 3, Carry: 8}
	for _, others := range [][]impl.Unit{
		nil,
		{{Id: 8, Owner: 1, X: 5, Y: 5, Life: 1}, {Id: 10, Owner: 1, X: 5, Y: 5, Life: 1}},
		{{Id: 9, Owner: 2, X: 5, Y: 5, Life: 1, Carry: 3}},
		{{Id: 9, Owner: 2, X: 6, Y: 5, Life: 50}},
		{{Id: 9, Owner: 2, X: 11, Y: 11, Life: 50}},
	} {
		b := impl.Board{Units: append([]impl.Unit{u}, others...)}
		want := impl.TickResult{Gains: make([]int64, 4), Board: impl.Board{Units: append([]impl.Unit{rests}, others...)}}
		wantTick(t, fmt.Sprintf("prey among %+v", others), impl.TickUnit(b, 2, manyRooms()), want)
		wantTick(t, fmt.Sprintf("prey among %+v", others), impl.TickBoard(b, manyRooms()), want)
	}
}

func TestUnitsOfNobodyDoNothing(t *testing.T) {
	field := []impl.Field{{X: 0, Y: 0, Left: 9}}
	for _, u := range []impl.Unit{
		{Id: 5, Owner: impl.Nobody, Life: 1},
		{Id: 5, Owner: impl.Nobody, Life: 1, Carry: 20},
		{Id: 5, Owner: impl.Nobody, Life: 1, Job: impl.DoMove},
		{Id: 5, Owner: impl.Nobody, Life: 1, Job: impl.DoMove, ToX: 4, ToY: 5},
		{Id: 5, Owner: impl.Nobody, Life: 1, Job: impl.DoHarvest},
		{Id: 5, Owner: impl.Nobody, Life: 1, Carry: 20, Job: impl.DoHarvest},
		{Id: 5, Owner: impl.Nobody, Life: 1, Job: impl.DoHarvest, Prey: 3},
		{Id: 5, Owner: impl.Nobody, Life: 1, Job: impl.DoAttack, Prey: 6},
		{Id: 5, Owner: impl.Nobody, Life: 1, Job: impl.DoAttack, Prey: 77},
	} {
		b := impl.Board{Units: []impl.Unit{u, {Id: 6, Owner: 1, Life: 7, Carry: 2}}, Fields: field}
		want := impl.TickResult{Gains: make([]int64, 4), Board: b}
		wantTick(t, fmt.Sprintf("TickUnit of %+v", u), impl.TickUnit(b, 5, manyRooms()), want)
		wantTick(t, fmt.Sprintf("TickUnit of who has no job beside %+v", u), impl.TickUnit(b, 6, manyRooms()), want)
		wantTick(t, fmt.Sprintf("TickMany of %+v", u), impl.TickMany(b, manyRooms(), 20), want)
		if !impl.IsResting(b) {
			t.Errorf("%+v rests not", u)
		}
	}
}

func TestATickOfOneUnitTurnsNoOtherJob(t *testing.T) {
	for _, b := range tickBoards(300) {
		for _, u := range b.Units {
			got := impl.TickUnit(b, u.Id, manyRooms())
			for _, other := range got.Board.Units {
				was := impl.UnitOf(b, other.Id).Unit
				if other.Id != u.Id && u.Job == impl.DoAttack && u.Prey == other.Id {
					was.Life = other.Life
				}
				if other.Id != u.Id && other != was {
					t.Fatalf("the tick of %d turned %+v into %+v", u.Id, was, other)
				}
			}
		}
	}
}

func TestWhoIsGoneAheadOfItsTurn(t *testing.T) {
	strike := func(id int64, owner int64, prey int64) impl.Unit {
		return impl.Unit{Id: id, Owner: owner, X: 5, Y: 5, Life: 7, Carry: id, Job: impl.DoAttack, Prey: prey}
	}
	rest := func(u impl.Unit) impl.Unit {
		stopByHand(&u)
		return u
	}
	one, two, three := strike(1, 0, 2), strike(2, 1, 1), strike(3, 2, 2)
	for _, c := range []struct {
		name  string
		units []impl.Unit
		left  []impl.Unit
		lost  int64
	}{
		// The second one is gone, and does not strike back.
		{"both at each other", []impl.Unit{one, two}, []impl.Unit{one}, 2},
		// The prey of the third one is gone ahead of it.
		{"two at one", []impl.Unit{one, two, three}, []impl.Unit{one, rest(three)}, 2},
		// Who comes first is gone by the next one, but has had its turn.
		{"in a chain", []impl.Unit{strike(1, 0, 3), strike(2, 1, 1), strike(3, 2, 2)}, []impl.Unit{strike(2, 1, 1)}, 4},
		{"behind its own turn", []impl.Unit{{Id: 1, Owner: 0, X: 5, Y: 5, Life: 7, Carry: 1, Job: impl.DoMove, ToX: 6, ToY: 5}, two}, []impl.Unit{two}, 1},
	} {
		b := impl.Board{Units: c.units}
		want := impl.TickResult{Gains: make([]int64, 4), Lost: c.lost, Board: impl.Board{Units: c.left}}
		wantTick(t, c.name, impl.TickBoard(b, manyRooms()), want)
	}
	thief := impl.Unit{Id: 2, Owner: 1, X: 5, Y: 5, Life: 7, Job: impl.DoHarvest}
	b := impl.Board{Units: []impl.Unit{one, thief}, Fields: []impl.Field{{X: 5, Y: 5, Left: 9}}}
	if got := impl.TickBoard(b, manyRooms()); got.Board.Fields[0].Left != 9 || len(got.Board.Units) != 1 {
		t.Errorf("who is gone took something: %+v", got)
	}
	wantTickFault(t, "who is gone", impl.TickUnit(impl.TickBoard(b, manyRooms()).Board, 2, manyRooms()), impl.ErrNone)
}

func TestOneBehindTheOther(t *testing.T) {
	// The first one goes away, so the second one comes nearer to where it is now.
	chase := impl.Board{Units: []impl.Unit{
		{Id: 1, Owner: 0, X: 5, Y: 5, Life: 7, Job: impl.DoMove, ToX: 5, ToY: 9},
		{Id: 2, Owner: 1, X: 4, Y: 5, Life: 7, Job: impl.DoAttack, Prey: 1},
		{Id: 3, Owner: 2, X: 3, Y: 5, Life: 7, Job: impl.DoAttack, Prey: 1},
	}}
	got := impl.TickBoard(chase, manyRooms()).Board.Units
	if len(got) != 2 || got[0] != (impl.Unit{Id: 2, Owner: 1, X: 4, Y: 5, Life: 7, Job: impl.DoAttack, Prey: 1}) || got[1] != (impl.Unit{Id: 3, Owner: 2, X: 3, Y: 5, Life: 7}) {
		t.Errorf("a chase: %+v", got)
	}
	chase.Units[0].ToX, chase.Units[0].ToY = 9, 5
	got = impl.TickBoard(chase, manyRooms()).Board.Units
	if len(got) != 3 || got[0].X != 6 || got[1].X != 5 || got[2].X != 4 || got[0].Life != 7 {
		t.Errorf("a chase away: %+v", got)
	}
	// What the first ones take the last one finds no more.
	field := impl.Board{Fields: []impl.Field{{X: 5, Y: 5, Left: 8}}}
	for id := int64(1); id <= 3; id++ {
		field.Units = append(field.Units, impl.Unit{Id: id, Owner: id, X: 5, Y: 5, Life: 1, Job: impl.DoHarvest})
	}
	taken := impl.TickBoard(field, manyRooms())
	if u := taken.Board.Units; u[0].Carry != 5 || u[1].Carry != 3 || u[2].Carry != 0 || u[2].Job != 0 || u[1].Job == 0 || taken.Board.Fields[0].Left != 0 {
		t.Errorf("one field: %+v", taken)
	}
}

func TestAPurseWithoutRoom(t *testing.T) {
	b := impl.Board{Fields: []impl.Field{{X: 5, Y: 5, Left: 8}}}
	for id := int64(1); id <= 4; id++ {
		owner := id / 4 * 3
		b.Units = append(b.Units, impl.Unit{Id: id, Owner: owner, X: owner / 3 * 11, Y: owner / 3 * 11, Life: 1, Carry: 20, Job: impl.DoHarvest})
	}
	for _, c := range []struct {
		room    int64
		carries []int64
		gain    int64
	}{
		{0, []int64{20, 20, 20}, 0},
		{1, []int64{19, 20, 20}, 1},
		{20, []int64{0, 20, 20}, 20},
		{21, []int64{0, 19, 20}, 21},
		{59, []int64{0, 0, 1}, 59},
		{60, []int64{0, 0, 0}, 60},
		{61, []int64{0, 0, 0}, 60},
		{1000000, []int64{0, 0, 0}, 60},
	} {
		rooms := []int64{c.room, 0, 0, 7}
		want := impl.TickResult{Gains: []int64{c.gain, 0, 0, 7}, Board: copyOf(b)}
		for i, carry := range c.carries {
			want.Board.Units[i].Carry = carry
		}
		want.Board.Units[3].Carry = 13
		wantTick(t, fmt.Sprint("a room of ", c.room), impl.TickBoard(b, rooms), want)
	}
	// Who finds no room waits at home, and gives nothing later on, either.
	full := impl.Board{Units: b.Units[:1], Fields: b.Fields}
	wantTick(t, "no room for long", impl.TickMany(full, make([]int64, 4), 20), impl.TickResult{Gains: make([]int64, 4), Board: full})
	if impl.IsResting(full) {
		t.Error("who waits rests")
	}
	// The rooms that a tick has used up are used up in the next one.
	bare := copyOf(full)
	bare.Fields[0].Left = 0
	twice := impl.TickMany(bare, []int64{13, 0, 0, 0}, 5)
	if !slices.Equal(twice.Gains, []int64{13, 0, 0, 0}) || twice.Board.Units[0].Carry != 7 {
		t.Errorf("a room over several ticks: %+v", twice)
	}
}

func TestTicksByHand(t *testing.T) {
	d := dice(11)
	for _, b := range tickBoards(1500) {
		for range 3 {
			rooms := d.rooms()
			for id := int64(0); id <= 11; id++ {
				wantTick(t, fmt.Sprintf("TickUnit(%+v, %d, %v)", b, id, rooms), impl.TickUnit(b, id, rooms), tickUnitByHand(b, id, rooms))
			}
			wantTick(t, fmt.Sprintf("TickBoard(%+v, %v)", b, rooms), impl.TickBoard(b, rooms), tickManyByHand(b, rooms, 1))
			n := d.roll(21)
			wantTick(t, fmt.Sprintf("TickMany(%+v, %v, %d)", b, rooms, n), impl.TickMany(b, rooms, n), tickManyByHand(b, rooms, n))
			if t.Failed() {
				return
			}
		}
	}
}

func TestABoardIsTickedUnitByUnit(t *testing.T) {
	d := dice(12)
	for _, b := range tickBoards(400) {
		rooms := d.rooms()
		want := impl.TickResult{Gains: make([]int64, 4), Board: copyOf(b)}
		for _, u := range b.Units {
			got := impl.TickUnit(want.Board, u.Id, lessOf(rooms, want.Gains))
			if got.Code == impl.ErrNone {
				continue
			}
			for side, gain := range got.Gains {
				want.Gains[side] += gain
			}
			want.Lost, want.Board = want.Lost+got.Lost, got.Board
		}
		wantTick(t, fmt.Sprintf("TickBoard(%+v, %v)", b, rooms), impl.TickBoard(b, rooms), want)
	}
}

func TestNothingIsLostOnTheWay(t *testing.T) {
	d := dice(13)
	keeps := func(call string, b impl.Board, rooms []int64, got impl.TickResult) {
		t.Helper()
		if got.Code != impl.OK || len(got.Gains) != 4 || impl.BoardFault(got.Board) != impl.OK {
			t.Fatalf("%s of %+v: %+v", call, b, got)
		}
		for side, gain := range got.Gains {
			if gain < 0 || gain > rooms[side] {
				t.Fatalf("%s of %+v: gains %v of rooms %v", call, b, got.Gains, rooms)
			}
		}
		if got.Lost < 0 || togetherOf(got.Board)+totalOf(got.Gains)+got.Lost != togetherOf(b) {
			t.Fatalf("%s of %+v: of %d there are %+v", call, b, togetherOf(b), got)
		}
	}
	for _, b := range tickBoards(1000) {
		rooms := d.rooms()
		for _, u := range b.Units {
			keeps("TickUnit", b, rooms, impl.TickUnit(b, u.Id, rooms))
		}
		keeps("TickBoard", b, rooms, impl.TickBoard(b, rooms))
		for n := range int64(21) {
			keeps("TickMany", b, rooms, impl.TickMany(b, rooms, n))
		}
	}
}

func TestTicksInTwoParts(t *testing.T) {
	d := dice(14)
	for _, b := range tickBoards(200) {
		rooms := d.rooms()
		for n := range int64(21) {
			whole := impl.TickMany(b, rooms, n)
			for cut := range n + 1 {
				first := impl.TickMany(b, rooms, cut)
				second := impl.TickMany(first.Board, lessOf(rooms, first.Gains), n-cut)
				both := impl.TickResult{Code: second.Code, Lost: first.Lost + second.Lost, Board: second.Board}
				for side := range first.Gains {
					both.Gains = append(both.Gains, first.Gains[side]+second.Gains[side])
				}
				wantTick(t, fmt.Sprintf("%d and %d ticks of %+v", cut, n-cut, b), both, whole)
			}
		}
		wantTick(t, "one tick", impl.TickMany(b, rooms, 1), impl.TickBoard(b, rooms))
		wantTick(t, "no tick", impl.TickMany(b, rooms, 0), impl.TickResult{Gains: make([]int64, 4), Board: b})
	}
}

func TestWhoIsOnlyToldToGoComesThereAndRests(t *testing.T) {
	for from := range int64(144) {
		for to := range int64(144) {
			u := impl.Unit{Id: 1, Owner: from % 4, X: from % 12, Y: from / 12, Life: 1, Carry: to % 21, Job: impl.DoMove, ToX: to % 12, ToY: to / 12}
			b := impl.Board{Units: []impl.Unit{u}}
			far := impl.FarOf(u.X, u.Y, u.ToX, u.ToY).Value
			there := u
			there.X, there.Y = u.ToX, u.ToY
			got := impl.TickMany(b, make([]int64, 4), far)
			if got.Board.Units[0] != there || impl.IsResting(got.Board) {
				t.Fatalf("%+v after %d: %+v", u, far, got)
			}
			stopByHand(&there)
			for _, n := range []int64{far + 1, 20} {
				if got = impl.TickMany(b, make([]int64, 4), n); got.Board.Units[0] != there || !impl.IsResting(got.Board) {
					t.Fatalf("%+v after %d: %+v", u, n, got)
				}
			}
		}
	}
	d, several := dice(15), impl.Board{}
	for id := int64(1); id <= 8; id++ {
		several.Units = append(several.Units, impl.Unit{Id: id, Owner: id % 4, X: d.roll(12), Y: d.roll(12), Life: 1, Job: impl.DoMove, ToX: d.roll(12), ToY: d.roll(12)})
	}
	got := impl.TickMany(several, manyRooms(), 20).Board
	for i, u := range got.Units {
		if u.X != several.Units[i].ToX || u.Y != several.Units[i].ToY || u.Job != 0 {
			t.Errorf("%+v came to %+v", several.Units[i], u)
		}
	}
	if len(got.Units) != 8 || !impl.IsResting(got) {
		t.Errorf("they rest not: %+v", got)
	}
}

func TestIsResting(t *testing.T) {
	job := func(owner int64, kind int64) impl.Unit {
		return impl.Unit{Id: 50, Owner: owner, Life: 1, Job: kind, Prey: kind / 2}
	}
	for owner := range int64(4) {
		for kind := range int64(4) {
			b := boardOf(4, 2)
			b.Units = append(b.Units, job(owner, kind), impl.Unit{Id: 60, Owner: owner, Life: 1})
			if got := impl.IsResting(b); got != (kind == 0) {
				t.Errorf("job %d of %d: %t", kind, owner, got)
			}
			b.Units[4].Owner = impl.Nobody
			if !impl.IsResting(b) {
				t.Errorf("job %d of Nobody rests not", kind)
			}
		}
	}
	if !impl.IsResting(impl.Board{}) || !impl.IsResting(impl.Board{Units: []impl.Unit{}, Fields: goodFields()}) {
		t.Error("a board without units rests not")
	}
	for _, b := range faultyBoards() {
		if impl.IsResting(b) {
			t.Errorf("a board with a fault rests: %+v", b)
		}
	}
	if impl.IsResting(impl.Board{Units: []impl.Unit{{Id: 1, Life: 1, ToX: 1}}}) {
		t.Error("a unit with a fault rests")
	}
}

func TestBoardsWithoutUnits(t *testing.T) {
	for _, b := range []impl.Board{{}, {Units: []impl.Unit{}, Fields: []impl.Field{}}, {Fields: goodFields()}} {
		want := impl.TickResult{Gains: make([]int64, 4), Board: b}
		wantTick(t, "TickBoard of nothing", impl.TickBoard(b, manyRooms()), want)
		for _, n := range []int64{0, 1, 20} {
			wantTick(t, "TickMany of nothing", impl.TickMany(b, manyRooms(), n), want)
		}
		wantTickFault(t, "TickUnit of nothing", impl.TickUnit(b, 1, manyRooms()), impl.ErrNone)
	}
}

// faultyRooms have each a fault of their own.
func faultyRooms() [][]int64 {
	lists := [][]int64{nil, {}, {1}, {1, 2, 3}, {1, 2, 3, 4, 5}, {-1, 2, 3}, {1, 2, 3, 4, -1}, {1, 2, 3, 4, 1000001}, make([]int64, 8), make([]int64, 5000)}
	for at := range 4 {
		for _, v := range outside(0, impl.MaxPurse) {
			rooms := manyRooms()
			rooms[at] = v
			lists = append(lists, rooms)
		}
	}
	return lists
}

func TestTickFaultsInTheirOrder(t *testing.T) {
	good, bad := boardOf(4, 2), append([]int64{21, 100}, outside(0, 20)...)
	for _, rooms := range faultyRooms() {
		code := int64(impl.ErrMany)
		if len(rooms) == 4 {
			code = impl.ErrRange
		}
		// The fault of the board is asked ahead of those of rooms, and both ahead of an id or n that is not so.
		for _, b := range append(faultyBoards(), good) {
			want := boardFaultByHand(b)
			if want == impl.OK {
				want = code
			}
			call := fmt.Sprintf("of %+v and rooms %v", b, rooms)
			wantTickFault(t, "TickBoard "+call, impl.TickBoard(b, rooms), want)
			for _, v := range append([]int64{0, 10, 20}, bad...) {
				wantTickFault(t, "TickUnit "+call, impl.TickUnit(b, v, rooms), want)
				wantTickFault(t, "TickMany "+call, impl.TickMany(b, rooms, v), want)
			}
		}
	}
	for _, b := range faultyBoards() {
		wantTickFault(t, "TickBoard", impl.TickBoard(b, manyRooms()), boardFaultByHand(b))
		wantTickFault(t, "TickUnit", impl.TickUnit(b, 10, manyRooms()), boardFaultByHand(b))
		wantTickFault(t, "TickMany", impl.TickMany(b, manyRooms(), 21), boardFaultByHand(b))
	}
	for _, n := range bad {
		wantTickFault(t, fmt.Sprint("TickMany, n ", n), impl.TickMany(good, manyRooms(), n), impl.ErrRange)
	}
	for _, id := range append(outside(1, 99), 1, 9, 11, 50, 256+10, 1<<32+10, -10) {
		wantTickFault(t, fmt.Sprint("TickUnit, id ", id), impl.TickUnit(good, id, manyRooms()), impl.ErrNone)
	}
	for _, rooms := range [][]int64{make([]int64, 4), {1000000, 1000000, 1000000, 1000000}, {0, 1000000, 0, 1}} {
		want := impl.TickResult{Gains: make([]int64, 4), Board: good}
		wantTick(t, "rooms at their ends", impl.TickBoard(good, rooms), want)
		wantTick(t, "rooms at their ends", impl.TickUnit(good, 10, rooms), want)
		wantTick(t, "rooms at their ends", impl.TickMany(good, rooms, 20), want)
	}
}

func tickAnswers(b impl.Board, id int64, rooms []int64, n int64) []any {
	return []any{
		impl.HomeOf(id), impl.HomeOf(n), impl.TickUnit(b, id, rooms), impl.TickBoard(b, rooms),
		impl.TickMany(b, rooms, n), impl.IsResting(b),
	}
}

type tickCall struct {
	board impl.Board
	id    int64
	rooms []int64
	n     int64
}

func tickCalls() []tickCall {
	var calls []tickCall
	d := dice(16)
	for _, b := range append(tickBoards(150), faultyBoards()...) {
		for _, id := range []int64{1, 2, 3, 10, math.MinInt64, math.MaxInt64} {
			calls = append(calls, tickCall{b, id, d.rooms(), d.pick(0, 1, 3, 20, 21, -1, math.MinInt64, math.MaxInt64)})
		}
		calls = append(calls, tickCall{b, 1, nil, 1}, tickCall{b, 4, []int64{1, 2, -3, 4}, 2})
	}
	return calls
}

func TestTicksHangOnTheirArgumentsAlone(t *testing.T) {
	calls := tickCalls()
	var first [][]any
	for _, c := range calls {
		first = append(first, tickAnswers(c.board, c.id, c.rooms, c.n))
	}
	for i := len(calls) - 1; i >= 0; i-- {
		c := calls[i]
		if again := tickAnswers(c.board, c.id, c.rooms, c.n); !reflect.DeepEqual(again, first[i]) {
			t.Errorf("of %+v: first %v, then %v", c, first[i], again)
		}
	}
}

func TestTicksChangeNoArgument(t *testing.T) {
	for _, c := range tickCalls() {
		before := copyOf(c.board)
		rooms := append(slices.Clone(c.rooms), 77, 78)[:len(c.rooms)]
		behind := slices.Clone(rooms[:cap(rooms)])
		tickAnswers(c.board, c.id, rooms, c.n)
		units, fields := c.board.Units[:cap(c.board.Units)], c.board.Fields[:cap(c.board.Fields)]
		if !slices.Equal(units, before.Units[:len(units)]) || !slices.Equal(fields, before.Fields[:len(fields)]) {
			t.Fatalf("%+v was turned into %+v", before, c.board)
		}
		if !slices.Equal(rooms[:cap(rooms)], behind) {
			t.Fatalf("rooms %v were turned into %v", behind, rooms[:cap(rooms)])
		}
	}
}

// spoilTick writes over all lists of an answer, and over what lies behind their ends.
func spoilTick(r impl.TickResult) {
	spoilNumbers(r.Gains)
	units, fields := r.Board.Units[:cap(r.Board.Units)], r.Board.Fields[:cap(r.Board.Fields)]
	for i := range units {
		units[i] = impl.Unit{Id: 77, Prey: -1}
	}
	for i := range fields {
		fields[i] = impl.Field{Left: -1}
	}
}

func spoilNumbers(list []int64) {
	for i := range list[:cap(list)] {
		list[:cap(list)][i] = -7
	}
}

func TestAnsweredTicksAreNewMemory(t *testing.T) {
	for _, c := range tickCalls() {
		for name, tick := range map[string]func(b impl.Board, rooms []int64) impl.TickResult{
			"TickUnit":  func(b impl.Board, rooms []int64) impl.TickResult { return impl.TickUnit(b, c.id, rooms) },
			"TickBoard": impl.TickBoard,
			"TickMany":  func(b impl.Board, rooms []int64) impl.TickResult { return impl.TickMany(b, rooms, c.n) },
			"no tick":   func(b impl.Board, rooms []int64) impl.TickResult { return impl.TickMany(b, rooms, 0) },
		} {
			b, rooms := copyOf(c.board), slices.Clone(c.rooms)
			want := tick(copyOf(c.board), slices.Clone(c.rooms))
			first, second := tick(b, rooms), tick(b, rooms)
			spoilTick(first)
			if !sameLists(b, c.board) || !slices.Equal(rooms, c.rooms) {
				t.Fatalf("what %s answers shares memory with what was handed in: %+v", name, c)
			}
			wantTick(t, name+" that was there already", second, want)
			spoilTick(impl.TickResult{Board: b})
			spoilNumbers(rooms)
			wantTick(t, name+" whose arguments were spoiled", second, want)
			wantTick(t, name+" once more", tick(copyOf(c.board), slices.Clone(c.rooms)), want)
		}
	}
}
