package tests

import (
	"bytes"
	"fmt"
	"math"
	"reflect"
	"slices"
	"testing"

	"loop.example/g00646/impl"
)

// inOrderByHand goes through all clients and all there can be of Seq, where the program seeks a place for each command.
func inOrderByHand(list []impl.Command) []impl.Command {
	var ordered []impl.Command
	for client := range int64(6) {
		for seq := int64(1); seq <= 999; seq++ {
			for _, c := range list {
				if c.Client == client && c.Seq == seq {
					ordered = append(ordered, c)
				}
			}
		}
	}
	return ordered
}

func orderOfByHand(list []impl.Command) impl.CommandsResult {
	if len(list) > 20 {
		return impl.CommandsResult{Code: impl.ErrMany}
	}
	for _, c := range list {
		if code := faultByHand(c); code != impl.OK {
			return impl.CommandsResult{Code: code}
		}
	}
	return impl.CommandsResult{Commands: inOrderByHand(list)}
}

func playByHand(w impl.World, turns [][]impl.Command) impl.WorldResult {
	if code := worldFaultByHand(w); code != impl.OK {
		return impl.WorldResult{Code: code}
	}
	if len(turns) > 6 {
		return impl.WorldResult{Code: impl.ErrMany}
	}
	now := copyOfWorld(w)
	for _, turn := range turns {
		if len(turn) > 10 {
			return impl.WorldResult{Code: impl.ErrMany}
		}
		ticked := timeByHand(allByHand(now, turn).World)
		if ticked.Code != impl.OK {
			return ticked
		}
		now = ticked.World
	}
	return impl.WorldResult{World: now}
}

func hostFaultByHand(h impl.Host) int64 {
	played := playByHand(h.Start, h.Turns)
	if played.Code != impl.OK {
		return played.Code
	}
	if !sameByHand(h.World, played.World) {
		return impl.ErrState
	}
	if len(h.Waiting) > 10 {
		return impl.ErrMany
	}
	for i, c := range h.Waiting {
		if code := faultByHand(c); code != impl.OK {
			return code
		}
		if waitsByHand(h.Waiting[:i], c) {
			return impl.ErrTaken
		}
	}
	return impl.OK
}

func waitsByHand(waiting []impl.Command, c impl.Command) bool {
	for _, other := range waiting {
		if other.Client == c.Client && other.Seq == c.Seq {
			return true
		}
	}
	return false
}

// commandByHand takes the bytes for what they would be, and asks what that packs to.
func commandByHand(data []byte) (impl.Command, bool) {
	if len(data) < 6 || !within(int64(data[1]), 1, 11) {
		return impl.Command{}, false
	}
	var params [3]int64
	count := kindsByHand[data[1]-1].count
	if int64(len(data)) != 6+3*count {
		return impl.Command{}, false
	}
	for i := range count {
		at := data[4+3*i:]
		params[i] = 65536*int64(at[0]) + 256*int64(at[1]) + int64(at[2])
	}
	c := impl.Command{Client: int64(data[0]), Seq: 256*int64(data[2]) + int64(data[3]), Kind: int64(data[1]), A: params[0], B: params[1], C: params[2]}
	if faultByHand(c) != impl.OK || !bytes.Equal(packByHand(c), data) {
		return impl.Command{}, false
	}
	return c, true
}

func newByHand(w impl.World) impl.HostResult {
	if code := worldFaultByHand(w); code != impl.OK {
		return impl.HostResult{Code: code}
	}
	return impl.HostResult{Host: impl.Host{Start: copyOfWorld(w), World: copyOfWorld(w)}}
}

func hearByHand(h impl.Host, data []byte) impl.HostResult {
	if code := hostFaultByHand(h); code != impl.OK {
		return impl.HostResult{Code: code}
	}
	c, ok := commandByHand(data)
	if !ok {
		return impl.HostResult{Code: impl.ErrText}
	}
	if waitsByHand(h.Waiting, c) {
		return impl.HostResult{Code: impl.ErrTaken}
	}
	if len(h.Waiting) == 10 {
		return impl.HostResult{Code: impl.ErrFull}
	}
	now := copyOfHost(h)
	now.Waiting = append(now.Waiting, c)
	return impl.HostResult{Host: now}
}

func sealByHand(h impl.Host) impl.HostResult {
	if code := hostFaultByHand(h); code != impl.OK {
		return impl.HostResult{Code: code}
	}
	if len(h.Turns) == 6 {
		return impl.HostResult{Code: impl.ErrFull}
	}
	turn := inOrderByHand(h.Waiting)
	done := allByHand(h.World, turn)
	ticked := timeByHand(done.World)
	if ticked.Code != impl.OK {
		return impl.HostResult{Code: ticked.Code}
	}
	now := copyOfHost(h)
	now.World, now.Waiting, now.Turns = ticked.World, nil, append(now.Turns, turn)
	return impl.HostResult{Codes: done.Codes, Host: now}
}

// copyOfHost has also what lies behind the ends of the lists, as copyOfWorld has it.
func copyOfHost(h impl.Host) impl.Host {
	turns := wholeCopy(h.Turns)
	for i, turn := range turns[:cap(turns)] {
		turns[:cap(turns)][i] = wholeCopy(turn)
	}
	return impl.Host{Start: copyOfWorld(h.Start), World: copyOfWorld(h.World), Waiting: wholeCopy(h.Waiting), Turns: turns}
}

// fullHost tells all that lies behind the ends of the lists, too; its turns are copies.
func fullHost(h impl.Host) impl.Host {
	full := impl.Host{Start: fullOf(h.Start), World: fullOf(h.World), Waiting: h.Waiting[:cap(h.Waiting)]}
	for _, turn := range h.Turns[:cap(h.Turns)] {
		full.Turns = append(full.Turns, turn[:cap(turn)])
	}
	return full
}

func sameTurnsByHand(a [][]impl.Command, b [][]impl.Command) bool {
	same := len(a) == len(b)
	for i := 0; same && i < len(a); i++ {
		same = slices.Equal(a[i], b[i])
	}
	return same
}

func sameHostsByHand(a impl.Host, b impl.Host) bool {
	return sameByHand(a.Start, b.Start) && sameByHand(a.World, b.World) && slices.Equal(a.Waiting, b.Waiting) && sameTurnsByHand(a.Turns, b.Turns)
}

func changedHost(h impl.Host, turn func(h *impl.Host)) impl.Host {
	h = copyOfHost(h)
	turn(&h)
	return h
}

func wantHost(t *testing.T, call string, got impl.HostResult, want impl.HostResult) {
	t.Helper()
	if want.Code != impl.OK {
		wantNoHost(t, call, got, want.Code)
		return
	}
	if got.Code != impl.OK || !slices.Equal(got.Codes, want.Codes) || !sameHostsByHand(got.Host, want.Host) {
		t.Errorf("%s: got %+v, want %+v", call, got, want)
	}
}

// wantNoHost asks for a code, and that all else is zero.
func wantNoHost(t *testing.T, call string, got impl.HostResult, code int64) {
	t.Helper()
	if !reflect.DeepEqual(got, impl.HostResult{Code: code}) {
		t.Errorf("%s: got %+v, want code %d and nothing else", call, got, code)
	}
}

func wantOrder(t *testing.T, list []impl.Command, want impl.CommandsResult) {
	t.Helper()
	got := impl.OrderOf(list)
	if want.Code != impl.OK {
		if !reflect.DeepEqual(got, impl.CommandsResult{Code: want.Code}) {
			t.Errorf("OrderOf(%+v): got %+v, want code %d and nothing else", list, got, want.Code)
		}
		return
	}
	if got.Code != impl.OK || !slices.Equal(got.Commands, want.Commands) {
		t.Errorf("OrderOf(%+v): got %+v, want %+v", list, got, want)
	}
}

func wantHeard(t *testing.T, h impl.Host, data []byte, want impl.HostResult) impl.Host {
	t.Helper()
	got := impl.HearFrame(h, data)
	wantHost(t, fmt.Sprintf("HearFrame(%v)", data), got, want)
	wantHost(t, fmt.Sprintf("HearFrame(%v) by hand", data), hearByHand(h, data), want)
	return got.Host
}

func wantSealed(t *testing.T, about string, h impl.Host, want impl.HostResult) impl.Host {
	t.Helper()
	got := impl.SealTurn(h)
	wantHost(t, about+": SealTurn", got, want)
	wantHost(t, about+": by hand", sealByHand(h), want)
	return got.Host
}

// wantHostFault asks for a code, and that nothing can be done with such a host.
func wantHostFault(t *testing.T, about string, h impl.Host, code int64) {
	t.Helper()
	was := copyOfHost(h)
	if got := impl.HostFault(h); got != code {
		t.Errorf("%s: HostFault is %d, want %d", about, got, code)
	}
	if hand := hostFaultByHand(h); hand != code {
		t.Errorf("%s: by hand %d, want %d", about, hand, code)
	}
	if code != impl.OK {
		// What is read of a frame, and how many turns there are, is asked behind it.
		for _, data := range [][]byte{nil, {1}, frameAt(5, 999, impl.DoLeave)} {
			wantNoHost(t, about+": HearFrame", impl.HearFrame(h, data), code)
		}
		wantNoHost(t, about+": SealTurn", impl.SealTurn(h), code)
	}
	if !sameHostsByHand(fullHost(h), fullHost(was)) {
		t.Errorf("%s: the host was changed", about)
	}
}

func commandAt(client int64, seq int64, kind int64, params ...int64) impl.Command {
	c := said(client, kind, params...)
	c.Seq = seq
	return c
}

func frameAt(client int64, seq int64, kind int64, params ...int64) []byte {
	return packByHand(commandAt(client, seq, kind, params...))
}

// heardAll is a host that heard these commands, one by one.
func heardAll(t *testing.T, h impl.Host, list ...impl.Command) impl.Host {
	t.Helper()
	for _, c := range list {
		got := impl.HearFrame(h, packByHand(c))
		if got.Code != impl.OK {
			t.Fatalf("HearFrame of %+v: %+v", c, got)
		}
		h = got.Host
	}
	return h
}

// sealedTimes is a host with so many turns of nothing more.
func sealedTimes(t *testing.T, h impl.Host, n int) impl.Host {
	t.Helper()
	for range n {
		got := impl.SealTurn(h)
		if got.Code != impl.OK {
			t.Fatalf("SealTurn: %+v", got)
		}
		h = got.Host
	}
	return h
}

// hostWorld has a client for each of two sides, who both may say all, and a unit of the first one.
func hostWorld() impl.World {
	w := impl.NewWorld().World
	w.Factions[0].Purse = 100
	w.Board.Units = []impl.Unit{{Id: 1, Owner: 0, Life: 9}, {Id: 2, Owner: 1, X: 2, Life: 5, Carry: 13}}
	w.Seats = []impl.Seat{{Client: 1, Faction: 0, Mask: 2047}, {Client: 3, Faction: 1, Mask: 2047}}
	return w
}

// leaves are n commands that are told apart by Client or Seq.
func leaves(n int) []impl.Command {
	var list []impl.Command
	for i := range int64(n) {
		list = append(list, commandAt(i%6, 900-i/6, impl.DoLeave))
	}
	return list
}

// midHost has two turns and commands that wait.
func midHost(t *testing.T) impl.Host {
	t.Helper()
	h := impl.NewHost(hostWorld()).Host
	h = heardAll(t, h, commandAt(3, 1, impl.DoOffer, 0), commandAt(1, 2, impl.DoTribute, 2, 30), commandAt(1, 1, impl.DoMove, 1, 5, 5))
	h = sealedTimes(t, h, 1)
	h = heardAll(t, h, commandAt(1, 3, impl.DoAccept, 1), commandAt(5, 1, impl.DoLeave))
	h = sealedTimes(t, h, 1)
	return heardAll(t, h, commandAt(3, 2, impl.DoBreak, 0), commandAt(1, 4, impl.DoTribute, 3, 1), commandAt(3, 9, impl.DoMask, 3, 5))
}

func TestBoundsOfHosts(t *testing.T) {
	if impl.MaxWaiting != 10 || impl.MaxTurns != 6 {
		t.Error("bounds", impl.MaxWaiting, impl.MaxTurns)
	}
}

func TestOrderOf(t *testing.T) {
	a := commandAt(0, 7, impl.DoLeave)
	b := commandAt(0, 300, impl.DoOffer, 1)
	c := commandAt(1, 1, impl.DoMove, 1, 2, 3)
	like := commandAt(1, 1, impl.DoAccept, 9)
	third := commandAt(1, 1, impl.DoAccept, 2)
	d := commandAt(5, 2, impl.DoGift, 1, 2)
	e := commandAt(5, 256, impl.DoSurrender)
	f := commandAt(5, 999, impl.DoBreak, 4)
	for _, x := range []struct{ list, want []impl.Command }{
		{nil, nil},
		{[]impl.Command{}, nil},
		{[]impl.Command{d}, []impl.Command{d}},
		{[]impl.Command{a, b, c, d, e, f}, []impl.Command{a, b, c, d, e, f}},
		{[]impl.Command{f, e, d, c, b, a}, []impl.Command{a, b, c, d, e, f}},
		{[]impl.Command{d, b, f, a, e, c}, []impl.Command{a, b, c, d, e, f}},
		// The Client is asked ahead of the Seq.
		{[]impl.Command{f, c, b}, []impl.Command{b, c, f}},
		{[]impl.Command{d, b}, []impl.Command{b, d}},
		// Like ones are as they were, whatever they say.
		{[]impl.Command{c, like, third}, []impl.Command{c, like, third}},
		{[]impl.Command{third, like, c}, []impl.Command{third, like, c}},
		{[]impl.Command{like, f, third, a, c}, []impl.Command{a, like, third, c, f}},
		{[]impl.Command{c, c, like, c}, []impl.Command{c, c, like, c}},
		{[]impl.Command{e, c, e, c}, []impl.Command{c, c, e, e}},
	} {
		wantOrder(t, x.list, impl.CommandsResult{Commands: x.want})
	}
}

// spoken are commands of few clients and few Seqs, so that many are like ones.
func (d *dice) spoken(n int64) []impl.Command {
	var list []impl.Command
	for i := range n {
		list = append(list, commandAt(d.roll(6), d.pick(1, 2, 2, 3, 255, 256, 257, 512, 998, 999), impl.DoTribute, i, d.roll(1000001)))
	}
	return list
}

func TestOrdersHaveAllThatWasSaid(t *testing.T) {
	d := dice(61)
	for range 3000 {
		list := d.spoken(d.roll(21))
		wantOrder(t, list, orderOfByHand(list))
		got := impl.OrderOf(list).Commands
		for _, c := range append(slices.Clone(list), impl.Command{}) {
			is := func(other impl.Command) bool { return other == c }
			if slices.IndexFunc(list, is) >= 0 != (slices.IndexFunc(got, is) >= 0) || len(got) != len(list) {
				t.Fatalf("OrderOf(%+v): got %+v", list, got)
			}
		}
		for i := 1; i < len(got); i++ {
			x, y := got[i-1], got[i]
			if x.Client > y.Client || x.Client == y.Client && (x.Seq > y.Seq || x.Seq == y.Seq && x.A >= y.A) {
				t.Fatalf("OrderOf(%+v): %+v stands ahead of %+v", list, x, y)
			}
		}
		wantOrder(t, got, impl.CommandsResult{Commands: got})
	}
}

func TestHowManyCommandsHaveAnOrder(t *testing.T) {
	good := goodCommands()
	slices.Reverse(good)
	for size := range 24 {
		wantOrder(t, good[:size], orderOfByHand(good[:size]))
		if got := impl.OrderOf(good[:size]); (got.Code == impl.OK) != (size <= 20) {
			t.Errorf("%d commands: code %d", size, got.Code)
		}
	}
	wantOrder(t, make([]impl.Command, 1000000), impl.CommandsResult{Code: impl.ErrMany})
	// How many there are is asked ahead of each one.
	form := impl.Command{Seq: 1, Kind: impl.DoLeave, A: 1}
	wantOrder(t, append([]impl.Command{form}, good[:20]...), impl.CommandsResult{Code: impl.ErrMany})
	wantOrder(t, append(slices.Clone(good[:20]), form), impl.CommandsResult{Code: impl.ErrMany})
	wantOrder(t, append([]impl.Command{form}, good[:19]...), impl.CommandsResult{Code: impl.ErrForm})
	wantOrder(t, append(slices.Clone(good[:19]), form), impl.CommandsResult{Code: impl.ErrForm})
}

func TestTheFirstFaultOfAnOrder(t *testing.T) {
	good := commandAt(2, 3, impl.DoOffer, 1)
	form := commandAt(5, 999, impl.DoLeave, 0, 0, 1)
	head := commandAt(6, 1, impl.DoLeave)
	param := commandAt(0, 1, impl.DoOffer, 1000001)
	both := commandAt(-1, 1, impl.DoLeave, 1)
	formToo := commandAt(0, 1, impl.DoOffer, -1, 1)
	for _, c := range []struct {
		list []impl.Command
		code int64
	}{
		{[]impl.Command{form}, impl.ErrForm},
		{[]impl.Command{head}, impl.ErrRange},
		{[]impl.Command{param}, impl.ErrRange},
		{[]impl.Command{{}}, impl.ErrRange},
		{[]impl.Command{both}, impl.ErrRange},
		{[]impl.Command{formToo}, impl.ErrForm},
		{[]impl.Command{good, good, head, good}, impl.ErrRange},
		// They are asked as they were, and not in their order.
		{[]impl.Command{form, param}, impl.ErrForm},
		{[]impl.Command{param, form}, impl.ErrRange},
		{[]impl.Command{form, head}, impl.ErrForm},
		{[]impl.Command{head, form}, impl.ErrRange},
		{[]impl.Command{good, formToo, head, param}, impl.ErrForm},
	} {
		wantOrder(t, c.list, impl.CommandsResult{Code: c.code})
	}
}

func TestCommandsAtTheirEdgesInAnOrder(t *testing.T) {
	good := commandAt(2, 3, impl.DoOffer, 1)
	eachEdge(func(c impl.Command) {
		got, want := impl.OrderOf([]impl.Command{good, c}), impl.CommandsResult{Code: faultByHand(c)}
		if want.Code == impl.OK && c.Client < 2 {
			want.Commands = []impl.Command{c, good}
		} else if want.Code == impl.OK {
			want.Commands = []impl.Command{good, c}
		}
		if got.Code != want.Code || !slices.Equal(got.Commands, want.Commands) {
			t.Fatalf("OrderOf with %+v: got %+v, want %+v", c, got, want)
		}
	})
}

func TestNewHost(t *testing.T) {
	for _, w := range append(mendedWorlds(300), gateWorld(), fullWorld(), jobWorld(), busyWorld(), hostWorld()) {
		was := copyOfWorld(w)
		got := impl.NewHost(w)
		wantHost(t, fmt.Sprintf("NewHost(%+v)", w), got, impl.HostResult{Host: impl.Host{Start: was, World: was}})
		if !sameByHand(fullOf(w), fullOf(was)) || impl.HostFault(got.Host) != impl.OK {
			t.Errorf("changed, or a fault: %+v", was)
		}
	}
}

func TestAHostOfAWorldWithAFault(t *testing.T) {
	met := map[int64]int{}
	worlds := append(append(faultyWorlds(), otherWorlds()...), someWorlds(500)...)
	for _, w := range worlds {
		code := worldFaultByHand(w)
		if code == impl.OK {
			continue
		}
		met[code]++
		wantNoHost(t, fmt.Sprintf("NewHost(%+v)", w), impl.NewHost(w), code)
		for _, turns := range [][][]impl.Command{nil, {{}}, make([][]impl.Command, 7), {leaves(11)}} {
			wantNoWorld(t, fmt.Sprintf("PlayTurns(%+v)", w), impl.PlayTurns(w, turns), code)
			wantHostFault(t, fmt.Sprintf("a host of %+v", w), impl.Host{Start: w, World: w, Turns: turns, Waiting: leaves(11)}, code)
		}
	}
	if met[impl.ErrForm] < 3 || met[impl.ErrRange] < 3 || met[impl.ErrMany] < 3 {
		t.Error("too few of one code", met)
	}
	wantHostFault(t, "a zero host", impl.Host{}, impl.ErrMany)
}

func TestNumbersOfAHostsWorldsAtTheirEdges(t *testing.T) {
	h := impl.NewHost(midWorld()).Host
	met := map[int64]int{}
	for _, spoil := range []func(h *impl.Host) *impl.World{
		func(h *impl.Host) *impl.World { return &h.Start },
		func(h *impl.Host) *impl.World { return &h.World },
	} {
		mine := copyOfHost(h)
		at, edges := numbersOfWorld(spoil(&mine))
		for i := range at {
			was := *at[i]
			for _, v := range edges[i] {
				*at[i] = v
				code := hostFaultByHand(mine)
				met[code]++
				wantHostFault(t, fmt.Sprintf("number %d is %d", i, v), mine, code)
			}
			*at[i] = was
		}
	}
	if met[impl.ErrState] < 100 || met[impl.ErrRange] < 50 || met[impl.ErrForm] < 5 {
		t.Error("too few of one code", met)
	}
}

// The whole of a game of two clients, by its own numbers.
func TestAHostIsWhatItsTurnsTell(t *testing.T) {
	w := hostWorld()
	h := impl.NewHost(w).Host
	offer, tribute, move := commandAt(3, 1, impl.DoOffer, 0), commandAt(1, 2, impl.DoTribute, 2, 30), commandAt(1, 1, impl.DoMove, 1, 5, 5)
	for i, c := range []impl.Command{offer, tribute, move} {
		want := impl.Host{Start: w, World: w, Waiting: []impl.Command{offer, tribute, move}[:i+1]}
		h = wantHeard(t, h, packByHand(c), impl.HostResult{Host: want})
	}
	first := []impl.Command{move, tribute, offer}
	one := turned(w, func(w *impl.World) {
		w.Tick, w.Factions[0].Purse, w.Factions[2].Purse = 1, 70, 30
		w.Board.Units[0] = impl.Unit{Id: 1, Owner: 0, X: 1, Y: 1, Life: 9, Job: impl.DoMove, ToX: 5, ToY: 5}
		w.Seats[0].Last, w.Seats[1].Last = 2, 1
		w.Offers = []impl.Offer{{From: 1, To: 0}}
	})
	h = wantSealed(t, "the first turn", h, impl.HostResult{Codes: []int64{0, 0, 0}, Host: impl.Host{Start: w, World: one, Turns: [][]impl.Command{first}}})
	// The same frame again, one of nobody, one that is too late, and one that is too much.
	accept, nobody, late, poor := commandAt(1, 3, impl.DoAccept, 1), commandAt(5, 1, impl.DoLeave), commandAt(3, 1, impl.DoOffer, 0), commandAt(1, 4, impl.DoTribute, 2, 71)
	for i, c := range []impl.Command{late, poor, nobody, accept} {
		want := impl.Host{Start: w, World: one, Turns: [][]impl.Command{first}, Waiting: []impl.Command{late, poor, nobody, accept}[:i+1]}
		h = wantHeard(t, h, packByHand(c), impl.HostResult{Host: want})
	}
	second := []impl.Command{accept, poor, late, nobody}
	two := turned(one, func(w *impl.World) {
		w.Tick, w.Factions[0].Allies, w.Factions[1].Allies = 2, 2, 1
		w.Board.Units[0].X, w.Board.Units[0].Y = 2, 2
		w.Seats[0].Last, w.Offers = 3, nil
	})
	codes := []int64{impl.OK, impl.ErrPoor, impl.ErrTaken, impl.ErrNone}
	h = wantSealed(t, "the second turn", h, impl.HostResult{Codes: codes, Host: impl.Host{Start: w, World: two, Turns: [][]impl.Command{first, second}}})
	// Nothing waits.
	three := turned(two, func(w *impl.World) {
		w.Tick = 3
		w.Board.Units[0].X, w.Board.Units[0].Y = 3, 3
	})
	turns := [][]impl.Command{first, second, nil}
	h = wantSealed(t, "a turn of nothing", h, impl.HostResult{Host: impl.Host{Start: w, World: three, Turns: turns}})
	for n, want := range []impl.World{w, one, two, three} {
		wantWorld(t, fmt.Sprint("PlayTurns of ", n), impl.PlayTurns(w, turns[:n]), impl.WorldResult{World: want})
	}
	// The turns from one on, from the world that the ones ahead told.
	wantWorld(t, "PlayTurns of the last two", impl.PlayTurns(one, turns[1:]), impl.WorldResult{World: three})
	wantHostFault(t, "in the end", h, impl.OK)
}

func TestASaidDeedIsDoneAheadOfTheTick(t *testing.T) {
	h := impl.NewHost(turned(hostWorld(), func(w *impl.World) { w.Board.Units[0].X = 1 })).Host
	h = heardAll(t, h, commandAt(1, 1, impl.DoAttack, 1, 2))
	got := impl.SealTurn(h)
	if got.Code != impl.OK || len(got.Host.World.Board.Units) != 1 || got.Host.World.Spent != 13 || got.Host.World.Tick != 1 {
		t.Errorf("an attack: %+v", got)
	}
	played := impl.PlayTurns(h.Start, [][]impl.Command{h.Waiting})
	wantWorld(t, "PlayTurns", played, impl.WorldResult{World: got.Host.World})
}

func TestATurnIsDoneInItsOrder(t *testing.T) {
	// Said in this order the first one alone would be done, as the Seq falls.
	list := []impl.Command{commandAt(3, 1, impl.DoTribute, 0, 40), commandAt(1, 3, impl.DoTribute, 1, 2), commandAt(1, 2, impl.DoTribute, 1, 20), commandAt(1, 1, impl.DoTribute, 1, 18)}
	w := hostWorld()
	got := impl.SealTurn(heardAll(t, impl.NewHost(w).Host, list...))
	ordered := []impl.Command{list[3], list[2], list[1], list[0]}
	if !slices.Equal(got.Codes, []int64{0, 0, 0, 0}) || !sameTurnsByHand(got.Host.Turns, [][]impl.Command{ordered}) {
		t.Errorf("a turn: %+v", got)
	}
	wantPurses(t, "in order", got.Host.World, 100, 0, 0, 0)
	// Turns that are played are done as they stand.
	played := impl.PlayTurns(w, [][]impl.Command{list})
	wantPurses(t, "as they stand", played.World, 98, 2, 0, 0)
	wantWorld(t, "as they stand", played, playByHand(w, [][]impl.Command{list}))
	wantHostFault(t, "as they stand", impl.Host{Start: w, World: played.World, Turns: [][]impl.Command{list}}, impl.OK)
	wantHostFault(t, "of another order", impl.Host{Start: w, World: played.World, Turns: [][]impl.Command{ordered}}, impl.ErrState)
}

func TestEachKindIsHeard(t *testing.T) {
	h := impl.NewHost(gateWorld()).Host
	for _, c := range goodCommands() {
		want := impl.Host{Start: gateWorld(), World: gateWorld(), Waiting: []impl.Command{c}}
		wantHeard(t, h, packByHand(c), impl.HostResult{Host: want})
	}
	// Whether it may be said is not asked yet.
	for _, list := range refusedCommands() {
		for _, c := range list {
			if faultByHand(c) == impl.OK {
				wantHeard(t, h, packByHand(c), impl.HostResult{Host: impl.Host{Start: gateWorld(), World: gateWorld(), Waiting: []impl.Command{c}}})
			}
		}
	}
}

func TestFramesThatAreNotHeard(t *testing.T) {
	h := midHost(t)
	full := heardAll(t, impl.NewHost(hostWorld()).Host, leaves(10)...)
	for _, host := range []impl.Host{impl.NewHost(impl.NewWorld().World).Host, h, full} {
		data := frameAt(2, 77, impl.DoGift, 258, 3)
		wantNoHost(t, "nil", impl.HearFrame(host, nil), impl.ErrText)
		wantNoHost(t, "none", impl.HearFrame(host, []byte{}), impl.ErrText)
		for size := range data {
			wantNoHost(t, fmt.Sprint("too short: ", size), impl.HearFrame(host, data[:size]), impl.ErrText)
			wantNoHost(t, fmt.Sprint("without the first: ", size), impl.HearFrame(host, data[size+1:]), impl.ErrText)
		}
		for _, more := range [][]byte{{0}, {1}, {255}, {0, 0}, data, make([]byte, 100000)} {
			wantNoHost(t, fmt.Sprint("too long: ", len(more)), impl.HearFrame(host, append(bytes.Clone(data), more...)), impl.ErrText)
		}
		for i := range data {
			for _, by := range []byte{1, 2, 128, 255} {
				torn := bytes.Clone(data)
				torn[i] ^= by
				wantNoHost(t, fmt.Sprintf("byte %d turned by %d", i, by), impl.HearFrame(host, torn), impl.ErrText)
			}
		}
		for _, out := range [][]byte{frameOf(6, impl.DoLeave, 1), frameOf(1, 12, 1), frameOf(1, 0, 1), frameOf(1, impl.DoLeave, 0), frameOf(1, impl.DoLeave, 1000), frameOf(1, impl.DoOffer, 1, 1000001)} {
			wantNoHost(t, "out of bounds", impl.HearFrame(host, out), impl.ErrText)
		}
	}
}

func TestAFrameThatWaitsIsNotHeardAgain(t *testing.T) {
	h := midHost(t)
	for _, c := range h.Waiting {
		wantNoHost(t, "the same again", impl.HearFrame(h, packByHand(c)), impl.ErrTaken)
		// Of the same Client and Seq, whatever it says.
		for _, other := range goodCommands()[:200] {
			other.Client, other.Seq = c.Client, c.Seq
			wantNoHost(t, "another thing", impl.HearFrame(h, packByHand(other)), impl.ErrTaken)
		}
		// Another Seq, or another Client, is another one.
		for _, other := range []impl.Command{{Client: c.Client, Seq: c.Seq + 100}, {Client: c.Client, Seq: c.Seq + 256}, {Client: (c.Client + 1) % 6, Seq: c.Seq}} {
			other.Kind, other.A, other.B, other.C = c.Kind, c.A, c.B, c.C
			want := changedHost(h, func(h *impl.Host) { h.Waiting = append(h.Waiting, other) })
			wantHeard(t, h, packByHand(other), impl.HostResult{Host: want})
		}
	}
	// Client and Seq are asked together, and of all that wait.
	crossed := commandAt(1, 2, impl.DoLeave)
	want := changedHost(h, func(h *impl.Host) { h.Waiting = append(h.Waiting, crossed) })
	wantHeard(t, h, packByHand(crossed), impl.HostResult{Host: want})
}

func TestAFrameThatComesAgainWhenItWasSealed(t *testing.T) {
	tribute := commandAt(1, 5, impl.DoTribute, 3, 60)
	data := packByHand(tribute)
	h := impl.NewHost(hostWorld()).Host
	h = heardAll(t, h, tribute)
	wantNoHost(t, "while it waits", impl.HearFrame(h, data), impl.ErrTaken)
	h = sealedTimes(t, h, 1)
	// It waits again, and is not done again.
	again := impl.HearFrame(h, data)
	if again.Code != impl.OK || !slices.Equal(again.Host.Waiting, []impl.Command{tribute}) {
		t.Fatalf("again: %+v", again)
	}
	sealed := impl.SealTurn(again.Host)
	if sealed.Code != impl.OK || !slices.Equal(sealed.Codes, []int64{impl.ErrTaken}) || !sameTurnsByHand(sealed.Host.Turns, [][]impl.Command{{tribute}, {tribute}}) {
		t.Errorf("sealed again: %+v", sealed)
	}
	wantPurses(t, "once", sealed.Host.World, 40, 0, 0, 60)
	wantHostFault(t, "sealed again", sealed.Host, impl.OK)
}

func TestHowManyWait(t *testing.T) {
	h := impl.NewHost(hostWorld()).Host
	list := leaves(12)
	for i, c := range list[:10] {
		h = wantHeard(t, h, packByHand(c), impl.HostResult{Host: impl.Host{Start: hostWorld(), World: hostWorld(), Waiting: list[:i+1]}})
	}
	for _, c := range list[10:] {
		wantNoHost(t, "one more", impl.HearFrame(h, packByHand(c)), impl.ErrFull)
	}
	// What waits already is told ahead of that, and what cannot be read ahead of both.
	for _, c := range h.Waiting {
		wantNoHost(t, "one that waits", impl.HearFrame(h, packByHand(c)), impl.ErrTaken)
	}
	wantNoHost(t, "no frame", impl.HearFrame(h, frameAt(0, 1, impl.DoLeave)[1:]), impl.ErrText)
	// A turn of all of them.
	sealed := impl.SealTurn(h)
	wantHost(t, "a turn of ten", sealed, sealByHand(h))
	if len(sealed.Codes) != 10 || len(sealed.Host.Turns[0]) != 10 || len(sealed.Host.Waiting) != 0 {
		t.Errorf("a turn of ten: %+v", sealed)
	}
	// And then there is room again.
	heardAll(t, sealed.Host, list[:10]...)
}

func TestHowManyTurns(t *testing.T) {
	h := impl.NewHost(hostWorld()).Host
	turns := [][]impl.Command{}
	for n := range 6 {
		list := leaves(10)[:n]
		h = heardAll(t, h, list...)
		turns = append(turns, inOrderByHand(list))
		got := impl.SealTurn(h)
		wantHost(t, fmt.Sprint("turn ", n), got, sealByHand(h))
		if h = got.Host; !sameTurnsByHand(h.Turns, turns) || h.World.Tick != int64(n)+1 {
			t.Fatalf("turn %d: %+v", n, h)
		}
	}
	wantNoHost(t, "one more", impl.SealTurn(h), impl.ErrFull)
	// Frames are heard still.
	h = heardAll(t, h, leaves(10)...)
	wantNoHost(t, "one more of ten", impl.SealTurn(h), impl.ErrFull)
	wantHostFault(t, "six turns", h, impl.OK)
	more := changedHost(h, func(h *impl.Host) { h.Turns = append(h.Turns, nil) })
	more.World = playByHand(h.World, [][]impl.Command{nil}).World
	wantHostFault(t, "seven turns", more, impl.ErrMany)
	for _, n := range []int{7, 8, 1000000} {
		wantNoWorld(t, fmt.Sprint(n, " turns"), impl.PlayTurns(hostWorld(), make([][]impl.Command, n)), impl.ErrMany)
	}
	for n := range 7 {
		got := impl.PlayTurns(hostWorld(), make([][]impl.Command, n))
		wantWorld(t, fmt.Sprint(n, " turns"), got, impl.WorldResult{World: turned(hostWorld(), func(w *impl.World) { w.Tick = int64(n) })})
	}
}

func TestHowLongATurn(t *testing.T) {
	w := hostWorld()
	for place := range 3 {
		for _, n := range []int{0, 1, 9, 10, 11, 12, 20, 21, 1000000} {
			turns := [][]impl.Command{leaves(1), nil, leaves(10)}
			turns[place] = make([]impl.Command, n)
			got := impl.PlayTurns(w, turns)
			if n > 10 {
				wantNoWorld(t, fmt.Sprint(n, " commands"), got, impl.ErrMany)
			} else {
				wantWorld(t, fmt.Sprint(n, " commands"), got, playByHand(w, turns))
			}
			if n < 1000 {
				h := impl.Host{Start: w, World: playByHand(w, turns).World, Turns: turns}
				wantHostFault(t, fmt.Sprint(n, " commands"), h, got.Code)
			}
		}
	}
}

func TestCommandsThatAreNoneInATurn(t *testing.T) {
	// They tell a code to DoAll, and turn nothing.
	w := hostWorld()
	for _, end := range []int64{math.MinInt64, -1, 0, 1000001, math.MaxInt64} {
		list := []impl.Command{{Client: end, Seq: end, Kind: end, A: end, B: end, C: end}, commandAt(1, 7, impl.DoMove, end, end, end), commandAt(1, 7, impl.DoLeave, 0, 0, end+1), commandAt(1, 8, impl.DoTribute, 2, 9)}
		turns := [][]impl.Command{list[:2], list, list}
		got := impl.PlayTurns(w, turns)
		wantWorld(t, fmt.Sprint("with ", end), got, playByHand(w, turns))
		wantHostFault(t, fmt.Sprint("with ", end), impl.Host{Start: w, World: got.World, Turns: turns}, impl.OK)
		sealed := impl.SealTurn(impl.Host{Start: w, World: got.World, Turns: turns})
		if sealed.Code != impl.OK || !sameTurnsByHand(sealed.Host.Turns, append(turns, nil)) {
			t.Errorf("sealed with %d: %+v", end, sealed)
		}
	}
}

func TestATickThatCannotBe(t *testing.T) {
	for start := int64(9990); start <= 9999; start++ {
		w := turned(hostWorld(), func(w *impl.World) { w.Tick = start })
		h := impl.NewHost(w).Host
		for n := int64(1); n <= 7; n++ {
			h = heardAll(t, h, commandAt(1, n, impl.DoTribute, 1, 1))
			was := copyOfHost(h)
			got := impl.SealTurn(h)
			if !sameHostsByHand(fullHost(h), fullHost(was)) {
				t.Fatalf("from %d turn %d: changed", start, n)
			}
			if n > 6 || start+n > 9999 {
				wantNoHost(t, fmt.Sprintf("from %d turn %d", start, n), got, impl.ErrFull)
				break
			}
			wantHost(t, fmt.Sprintf("from %d turn %d", start, n), got, sealByHand(h))
			h = got.Host
		}
		for n := range 7 {
			turns := make([][]impl.Command, n)
			got := impl.PlayTurns(w, turns)
			if start+int64(n) > 9999 {
				wantNoWorld(t, fmt.Sprintf("from %d %d turns", start, n), got, impl.ErrFull)
				wantHostFault(t, fmt.Sprintf("from %d %d turns", start, n), impl.Host{Start: w, World: w, Turns: turns}, impl.ErrFull)
			} else if got.Code != impl.OK || got.World.Tick != start+int64(n) {
				t.Errorf("from %d %d turns: %+v", start, n, got)
			}
		}
	}
}

func TestATickThatCannotBeForWhatWasSaid(t *testing.T) {
	attack := commandAt(1, 1, impl.DoAttack, 1, 2)
	give := commandAt(3, 1, impl.DoGift, 2, 0)
	for _, spent := range []int64{99999986, 99999987, 99999988, 100000000} {
		// It carries 13, which are lost when it is struck down, but not when it was given away.
		w := turned(hostWorld(), func(w *impl.World) { w.Spent, w.Board.Units[0].X = spent, 1 })
		h := impl.NewHost(w).Host
		calm, fight, gift := sealedTimes(t, h, 1), heardAll(t, h, attack), heardAll(t, h, give, attack)
		if calm.World.Spent != spent {
			t.Errorf("nothing said: %+v", calm)
		}
		if got := impl.SealTurn(gift); got.Code != impl.OK || got.Host.World.Spent != spent || !slices.Equal(got.Codes, []int64{0, 0}) {
			t.Errorf("given away: %+v", got)
		}
		got, played := impl.SealTurn(fight), impl.PlayTurns(w, [][]impl.Command{{attack}})
		if spent+13 > 100000000 {
			wantNoHost(t, "lost too much", got, impl.ErrFull)
			wantNoWorld(t, "lost too much", played, impl.ErrFull)
			wantHostFault(t, "lost too much", impl.Host{Start: w, World: w, Turns: [][]impl.Command{{attack}}}, impl.ErrFull)
			continue
		}
		wantHost(t, "lost", got, sealByHand(fight))
		wantWorld(t, "lost", played, impl.WorldResult{World: got.Host.World})
		if got.Host.World.Spent != spent+13 {
			t.Errorf("lost: %+v", got)
		}
	}
}

func TestCodesOfPlayTurnsInOrder(t *testing.T) {
	w, last := hostWorld(), turned(hostWorld(), func(w *impl.World) { w.Tick = 9999 })
	near := turned(hostWorld(), func(w *impl.World) { w.Tick = 9998 })
	faulty := turned(last, func(w *impl.World) { w.Seats[1].Client = 1 })
	seven, long := make([][]impl.Command, 7), leaves(11)
	for _, c := range []struct {
		about string
		w     impl.World
		turns [][]impl.Command
		code  int64
	}{
		{"a fault ahead of how many turns", faulty, seven, impl.ErrForm},
		{"a fault ahead of how long a turn", faulty, [][]impl.Command{long}, impl.ErrForm},
		{"a fault ahead of a tick", faulty, [][]impl.Command{nil}, impl.ErrForm},
		{"how many turns ahead of a tick", last, seven, impl.ErrMany},
		{"how long a turn ahead of its tick", last, [][]impl.Command{long}, impl.ErrMany},
		// Each turn is asked all of its own ahead of the next one.
		{"a tick ahead of how long the next turn", last, [][]impl.Command{nil, long}, impl.ErrFull},
		{"how long the next turn, when a tick could be", near, [][]impl.Command{nil, long}, impl.ErrMany},
		{"a tick of the next turn", near, [][]impl.Command{nil, nil, long}, impl.ErrFull},
		{"how long a turn", w, [][]impl.Command{nil, nil, nil, nil, nil, long}, impl.ErrMany},
	} {
		wantNoWorld(t, c.about, impl.PlayTurns(c.w, c.turns), c.code)
		wantNoWorld(t, c.about+" by hand", playByHand(c.w, c.turns), c.code)
		// And all of that ahead of what else can be said of a host.
		double := append(leaves(11), leaves(1)...)
		wantHostFault(t, c.about, impl.Host{Start: c.w, World: impl.World{}, Turns: c.turns, Waiting: double}, c.code)
		wantHostFault(t, c.about, impl.Host{Start: c.w, World: c.w, Turns: c.turns}, c.code)
	}
}

func TestCodesOfHostFaultInOrder(t *testing.T) {
	h := midHost(t)
	wantHostFault(t, "as it is", h, impl.OK)
	good := commandAt(2, 3, impl.DoOffer, 1)
	like := commandAt(2, 3, impl.DoLeave)
	form := commandAt(4, 4, impl.DoLeave, 1)
	formLike := commandAt(2, 3, impl.DoLeave, 1)
	head := commandAt(6, 1, impl.DoLeave)
	param := commandAt(2, 3, impl.DoOffer, 1000001)
	for _, c := range []struct {
		about string
		turn  func(h *impl.Host)
		code  int64
	}{
		{"no turns of this world", func(h *impl.Host) { h.Turns = nil }, impl.ErrState},
		{"a turn less", func(h *impl.Host) { h.Turns = h.Turns[:1] }, impl.ErrState},
		{"a turn more", func(h *impl.Host) { h.Turns = append(h.Turns, nil) }, impl.ErrState},
		{"turns the other way", func(h *impl.Host) { slices.Reverse(h.Turns) }, impl.ErrState},
		{"a command less", func(h *impl.Host) { h.Turns[0] = h.Turns[0][1:] }, impl.ErrState},
		{"a command that was not done less", func(h *impl.Host) { h.Turns[1] = h.Turns[1][:1] }, impl.OK},
		{"another Start", func(h *impl.Host) { h.Start.Factions[3].Purse = 1 }, impl.ErrState},
		{"another World", func(h *impl.Host) { h.World.Factions[3].Purse = 1 }, impl.ErrState},
		{"the Start as World", func(h *impl.Host) { h.World = h.Start }, impl.ErrState},
		{"a World with a fault", func(h *impl.Host) { h.World.Tick = -1 }, impl.ErrState},
		{"a World without factions", func(h *impl.Host) { h.World = impl.World{} }, impl.ErrState},
		{"another World ahead of how many wait", func(h *impl.Host) { h.World.Spent, h.Waiting = 1, leaves(11) }, impl.ErrState},
		{"another World ahead of a command", func(h *impl.Host) { h.World.Spent, h.Waiting = 1, []impl.Command{head} }, impl.ErrState},
		{"ten wait", func(h *impl.Host) { h.Waiting = leaves(10) }, impl.OK},
		{"eleven wait", func(h *impl.Host) { h.Waiting = leaves(11) }, impl.ErrMany},
		{"many wait", func(h *impl.Host) { h.Waiting = make([]impl.Command, 1000) }, impl.ErrMany},
		{"how many ahead of a command", func(h *impl.Host) { h.Waiting = append([]impl.Command{form}, leaves(10)...) }, impl.ErrMany},
		{"how many ahead of two alike", func(h *impl.Host) { h.Waiting = append(leaves(10), leaves(1)...) }, impl.ErrMany},
		{"a command's bounds", func(h *impl.Host) { h.Waiting = []impl.Command{good, head} }, impl.ErrRange},
		{"a command's form", func(h *impl.Host) { h.Waiting = []impl.Command{good, form} }, impl.ErrForm},
		{"what a command has", func(h *impl.Host) { h.Waiting = []impl.Command{param} }, impl.ErrRange},
		{"a zero command", func(h *impl.Host) { h.Waiting = []impl.Command{{}} }, impl.ErrRange},
		{"form, then bounds", func(h *impl.Host) { h.Waiting = []impl.Command{form, head} }, impl.ErrForm},
		{"bounds, then form", func(h *impl.Host) { h.Waiting = []impl.Command{head, form} }, impl.ErrRange},
		{"the same twice", func(h *impl.Host) { h.Waiting = []impl.Command{good, good} }, impl.ErrTaken},
		{"another thing of the same Client and Seq", func(h *impl.Host) { h.Waiting = []impl.Command{good, form, like}; h.Waiting[1].A = 0 }, impl.ErrTaken},
		{"the last of ten", func(h *impl.Host) { h.Waiting = append(leaves(9), leaves(1)...) }, impl.ErrTaken},
		{"two alike ahead of the next one's form", func(h *impl.Host) { h.Waiting = []impl.Command{good, like, form} }, impl.ErrTaken},
		{"form ahead of the next two alike", func(h *impl.Host) { h.Waiting = []impl.Command{form, good, like} }, impl.ErrForm},
		{"its own form ahead of another of its Client and Seq", func(h *impl.Host) { h.Waiting = []impl.Command{good, formLike} }, impl.ErrForm},
		{"its own bounds ahead of another of its Client and Seq", func(h *impl.Host) { h.Waiting = []impl.Command{good, param} }, impl.ErrRange},
		{"the same Client, another Seq", func(h *impl.Host) { h.Waiting = []impl.Command{good, commandAt(2, 4, impl.DoLeave)} }, impl.OK},
		{"the same Seq, another Client", func(h *impl.Host) { h.Waiting = []impl.Command{good, commandAt(3, 3, impl.DoLeave)} }, impl.OK},
		{"not in order", func(h *impl.Host) {
			h.Waiting = []impl.Command{good, commandAt(2, 1, impl.DoLeave), commandAt(0, 9, impl.DoLeave)}
		}, impl.OK},
	} {
		wantHostFault(t, c.about, changedHost(h, c.turn), c.code)
	}
}

func TestCommandsAtTheirEdgesThatWait(t *testing.T) {
	good := commandAt(5, 999, impl.DoOffer, 1)
	h := impl.NewHost(impl.NewWorld().World).Host
	eachEdge(func(c impl.Command) {
		h.Waiting = []impl.Command{good, c}
		want := faultByHand(c)
		if want == impl.OK && c.Client == 5 && c.Seq == 999 {
			want = impl.ErrTaken
		}
		if got := impl.HostFault(h); got != want {
			t.Fatalf("HostFault with %+v: got %d, want %d", c, got, want)
		}
	})
}

func TestCodesOfHearingAndSealingInOrder(t *testing.T) {
	six := heardAll(t, sealedTimes(t, midHost(t), 4), leaves(10)...)
	alike := changedHost(six, func(h *impl.Host) { h.Waiting[9] = h.Waiting[0] })
	torn := packByHand(six.Waiting[0])
	torn[5] ^= 1
	wantNoHost(t, "two alike ahead of no frame", impl.HearFrame(alike, nil), impl.ErrTaken)
	wantNoHost(t, "another World ahead of no frame", impl.HearFrame(changedHost(six, func(h *impl.Host) { h.World.Tick++ }), torn), impl.ErrState)
	wantNoHost(t, "no frame ahead of one that waits, and of ten that wait", impl.HearFrame(six, torn), impl.ErrText)
	wantNoHost(t, "one that waits ahead of ten that wait", impl.HearFrame(six, packByHand(six.Waiting[9])), impl.ErrTaken)
	wantNoHost(t, "ten that wait", impl.HearFrame(six, frameAt(5, 1, impl.DoLeave)), impl.ErrFull)
	wantNoHost(t, "two alike ahead of six turns", impl.SealTurn(alike), impl.ErrTaken)
	wantNoHost(t, "six turns", impl.SealTurn(six), impl.ErrFull)
}

// frame is one of what may be said in a host, or waits there already; some of it cannot be read.
func (d *dice) frame(h impl.Host) []byte {
	c := d.fitting(h.World)
	c.Seq = h.World.Tick%100*10 + d.roll(12) + 1
	if len(h.Waiting) > 0 && d.roll(5) == 0 {
		c = h.Waiting[d.roll(int64(len(h.Waiting)))]
	}
	for faultByHand(c) != impl.OK {
		c = d.fitting(h.World)
	}
	data := packByHand(c)
	switch d.roll(12) {
	case 0:
		data[d.roll(int64(len(data)))] ^= byte(d.roll(255) + 1)
	case 1:
		data = data[:d.roll(int64(len(data)))]
	case 2:
		data = append(data, byte(d.roll(256)))
	}
	return data
}

// hostWorlds are worlds of which much can be said.
func hostWorlds(n int) []impl.World {
	d := dice(67)
	worlds := sayingWorlds(n)
	for i := range worlds {
		for j := range worlds[i].Seats {
			worlds[i].Seats[j].Last = d.pick(0, 0, 0, 1, 5, 999)
		}
		worlds[i].Tick = d.pick(0, 0, 7, 500, 9996, 9999)
	}
	return append(worlds, hostWorld())
}

// eachHost calls try with what comes of each world, frame by frame and turn by turn.
func eachHost(d *dice, worlds []impl.World, steps int, try func(h impl.Host)) {
	for _, w := range worlds {
		h := impl.NewHost(w).Host
		try(h)
		for range steps {
			next := impl.HearFrame(h, d.frame(h))
			if d.roll(6) == 0 {
				next = impl.SealTurn(h)
			}
			if next.Code == impl.OK {
				h = next.Host
				try(h)
			}
		}
	}
}

func TestManyHosts(t *testing.T) {
	d, heard, sealed, codes := dice(71), map[int64]int{}, map[int64]int{}, map[int64]int{}
	for i, w := range hostWorlds(150) {
		h := impl.NewHost(w).Host
		wantHost(t, fmt.Sprint("host ", i), impl.HostResult{Host: h}, newByHand(w))
		for range d.pick(10, 40, 90) {
			was, call := copyOfHost(h), ""
			var got, want impl.HostResult
			if d.roll(d.pick(4, 20)) == 0 {
				call, got, want = "SealTurn", impl.SealTurn(h), sealByHand(h)
				sealed[want.Code]++
			} else {
				data := d.frame(h)
				call, got, want = fmt.Sprintf("HearFrame(%v)", data), impl.HearFrame(h, data), hearByHand(h, data)
				heard[want.Code]++
			}
			wantHost(t, call, got, want)
			if !sameHostsByHand(fullHost(h), fullHost(was)) {
				t.Errorf("%s: changed", call)
			}
			if got.Code == impl.OK {
				checkHost(t, call, h, got)
				h = got.Host
			}
			for _, code := range got.Codes {
				codes[code]++
			}
			if t.Failed() {
				t.Fatalf("of host %d: %+v", i, was)
			}
		}
	}
	if heard[impl.OK] < 500 || heard[impl.ErrText] < 100 || heard[impl.ErrTaken] < 100 || heard[impl.ErrFull] < 50 || sealed[impl.OK] < 200 || sealed[impl.ErrFull] < 50 {
		t.Error("too few of one code", heard, sealed)
	}
	if codes[impl.OK] < 100 || codes[impl.ErrNone] < 20 || codes[impl.ErrTaken] < 10 {
		t.Error("too few of one code in turns", codes)
	}
}

// checkHost asks that a frame that was heard waits, or that a sealed turn is all that waited, and that the host is what its turns tell.
func checkHost(t *testing.T, call string, was impl.Host, got impl.HostResult) {
	t.Helper()
	now := got.Host
	if impl.HostFault(now) != impl.OK || !impl.SameWorlds(now.Start, was.Start) {
		t.Errorf("%s: a fault, or another Start: %+v", call, now)
	}
	wantWorld(t, call, impl.PlayTurns(now.Start, now.Turns), impl.WorldResult{World: now.World})
	if impl.TotalOf(now.World) != impl.TotalOf(now.Start) {
		t.Errorf("%s: another total", call)
	}
	if len(now.Turns) == len(was.Turns) {
		last := len(was.Waiting)
		if len(now.Waiting) != last+1 || !slices.Equal(now.Waiting[:last], was.Waiting) || len(got.Codes) != 0 || !sameByHand(now.World, was.World) {
			t.Errorf("%s: %+v waits", call, now.Waiting)
		}
		wantNoHost(t, call+" again", impl.HearFrame(now, packByHand(now.Waiting[last])), impl.ErrTaken)
		return
	}
	turn := now.Turns[len(was.Turns)]
	if len(now.Turns) != len(was.Turns)+1 || len(now.Waiting) != 0 || len(got.Codes) != len(turn) || !sameTurnsByHand(now.Turns[:len(was.Turns)], was.Turns) {
		t.Errorf("%s: %+v", call, now)
	}
	if !slices.Equal(turn, impl.OrderOf(was.Waiting).Commands) || len(turn) != len(was.Waiting) {
		t.Errorf("%s: the turn is %+v, %+v waited", call, turn, was.Waiting)
	}
	all := impl.DoAll(was.World, turn)
	wantInts(t, call+" Codes", impl.IntsResult{List: got.Codes}, impl.OK, all.Codes...)
	wantWorld(t, call, impl.TickWorld(all.World), impl.WorldResult{World: now.World})
}

func TestHostsWithAThingTurned(t *testing.T) {
	d, met := dice(73), map[int64]int{}
	eachHost(&d, hostWorlds(30), 30, func(h impl.Host) {
		for range 4 {
			spoiled := copyOfHost(h)
			for range d.roll(3) + 1 {
				d.spoilHost(&spoiled)
			}
			code := hostFaultByHand(spoiled)
			met[code]++
			wantHostFault(t, fmt.Sprintf("%+v", spoiled), spoiled, code)
		}
		if t.Failed() {
			t.FailNow()
		}
	})
	for _, code := range []int64{impl.OK, impl.ErrForm, impl.ErrMany, impl.ErrRange, impl.ErrTaken, impl.ErrFull, impl.ErrState} {
		if met[code] < 10 {
			t.Errorf("code %d: too few %v", code, met)
		}
	}
}

// spoilHost turns one thing of a host, which may be a fault or not.
func (d *dice) spoilHost(h *impl.Host) {
	switch d.roll(9) {
	case 0:
		at, edges := numbersOfWorld(&h.Start)
		i := d.roll(int64(len(at)))
		*at[i] = d.pick(edges[i]...)
	case 1:
		h.World.Spent += d.pick(0, 1)
	case 2:
		h.Waiting = append(h.Waiting, d.saying())
	case 3:
		h.Waiting = append(h.Waiting, h.Waiting...)
	case 4:
		h.Turns = append(h.Turns, leaves(int(d.pick(0, 1, 10, 11))))
	case 5:
		h.Turns = h.Turns[:d.roll(int64(len(h.Turns)+1))]
	case 6:
		h.Start.Tick = d.pick(0, 9990, 9999, 10000)
		h.World.Tick = h.Start.Tick + int64(len(h.Turns))
	case 7:
		h.Waiting = append(h.Waiting, commandAt(d.roll(6), d.roll(5), impl.DoLeave, d.pick(0, 0, 0, 1, 1000001)))
	case 8:
		h.World = copyOfWorld(playByHand(h.Start, h.Turns).World)
	}
}

// otherHosts are midHost, each with one thing turned.
func otherHosts(t *testing.T) []impl.Host {
	h := midHost(t)
	var hosts []impl.Host
	add := func(turn func(h *impl.Host)) {
		hosts = append(hosts, changedHost(h, turn))
	}
	for i := range 2 {
		count, _ := numbersOfWorld(&impl.World{Board: h.Start.Board, Factions: h.Start.Factions, Seats: h.Start.Seats})
		world := func(h *impl.Host) *impl.World { return []*impl.World{&h.Start, &h.World}[i] }
		for j := range count {
			add(func(h *impl.Host) {
				at, _ := numbersOfWorld(world(h))
				*at[j] += 1000
			})
		}
		add(func(h *impl.Host) { world(h).Factions[3].Gone = true })
		add(func(h *impl.Host) { world(h).Board.Units = world(h).Board.Units[:1] })
		add(func(h *impl.Host) { world(h).Seats = world(h).Seats[:1] })
		add(func(h *impl.Host) { world(h).Offers = append(world(h).Offers, impl.Offer{From: 2, To: 3}) })
	}
	lists := func(h *impl.Host) []*[]impl.Command {
		return []*[]impl.Command{&h.Waiting, &h.Turns[0], &h.Turns[1]}
	}
	for i, list := range lists(&h) {
		for j := range *list {
			for field := range 6 {
				add(func(h *impl.Host) {
					c := &(*lists(h)[i])[j]
					*[]*int64{&c.Client, &c.Seq, &c.Kind, &c.A, &c.B, &c.C}[field]++
				})
			}
		}
		add(func(h *impl.Host) { *lists(h)[i] = (*lists(h)[i])[1:] })
		add(func(h *impl.Host) { *lists(h)[i] = (*lists(h)[i])[:1] })
		add(func(h *impl.Host) { *lists(h)[i] = nil })
		add(func(h *impl.Host) { *lists(h)[i] = append(*lists(h)[i], impl.Command{}) })
		add(func(h *impl.Host) { slices.Reverse(*lists(h)[i]) })
	}
	add(func(h *impl.Host) { h.Start, h.World = h.World, h.Start })
	add(func(h *impl.Host) { h.Turns = nil })
	add(func(h *impl.Host) { h.Turns = h.Turns[:1] })
	add(func(h *impl.Host) { h.Turns = h.Turns[1:] })
	add(func(h *impl.Host) { h.Turns = append(h.Turns, nil) })
	add(func(h *impl.Host) { h.Turns = slices.Insert(h.Turns, 0, nil) })
	add(func(h *impl.Host) { slices.Reverse(h.Turns) })
	// The same commands, with the ends of the turns elsewhere.
	add(func(h *impl.Host) { h.Turns = [][]impl.Command{slices.Concat(h.Turns...)} })
	add(func(h *impl.Host) { h.Turns = [][]impl.Command{slices.Concat(h.Turns...), nil} })
	add(func(h *impl.Host) { h.Turns[0], h.Turns[1] = h.Turns[0][:2], slices.Concat(h.Turns[0][2:], h.Turns[1]) })
	add(func(h *impl.Host) { h.Waiting, h.Turns[1] = h.Turns[1], h.Waiting })
	return hosts
}

func TestSameHosts(t *testing.T) {
	h := midHost(t)
	others := otherHosts(t)
	for i, other := range append(others, h, impl.Host{}) {
		if !impl.SameHosts(other, other) || !impl.SameHosts(other, copyOfHost(other)) {
			t.Errorf("host %d is not the same as itself: %+v", i, other)
		}
		// With faults as well, hosts are held against each other.
		for j, third := range others {
			if same := sameHostsByHand(other, third); impl.SameHosts(other, third) != same || impl.SameHosts(third, other) != same {
				t.Errorf("SameHosts of %d and %d is not %v", i, j, same)
			}
		}
	}
	for i, other := range others {
		if impl.SameHosts(h, other) || impl.SameHosts(other, h) {
			t.Errorf("host %d is the same: %+v", i, other)
		}
	}
}

func TestAnEmptyListOfAHostIsNil(t *testing.T) {
	w := impl.NewWorld().World
	empty := goodWorlds()[6]
	bare := impl.Host{Start: w, World: empty}
	full := impl.Host{Start: empty, World: w, Waiting: []impl.Command{}, Turns: [][]impl.Command{}}
	if !impl.SameHosts(bare, full) || !impl.SameHosts(full, bare) || !impl.SameHosts(full, impl.NewHost(empty).Host) {
		t.Error("no turns")
	}
	wantHostFault(t, "no turns", full, impl.OK)
	first, second := sealedTimes(t, bare, 2), sealedTimes(t, full, 2)
	first.Turns, second.Turns = [][]impl.Command{nil, {}}, [][]impl.Command{{}, nil}
	if !impl.SameHosts(first, second) {
		t.Error("turns of nothing")
	}
	wantHostFault(t, "turns of nothing", second, impl.OK)
	if impl.SameHosts(first, changedHost(first, func(h *impl.Host) { h.Turns = h.Turns[:1] })) {
		t.Error("a turn of nothing is a turn")
	}
}

func hostAnswers(h impl.Host) []any {
	answers := []any{
		impl.HostFault(h), impl.NewHost(h.Start), impl.NewHost(h.World), impl.SealTurn(h), impl.OrderOf(h.Waiting),
		impl.PlayTurns(h.Start, h.Turns), impl.PlayTurns(h.World, h.Turns), impl.PlayTurns(h.World, nil),
		impl.SameHosts(h, h), impl.SameHosts(h, impl.Host{}), impl.HearFrame(h, nil),
	}
	for _, c := range append(leaves(2), h.Waiting...) {
		if faultByHand(c) == impl.OK {
			answers = append(answers, impl.HearFrame(h, packByHand(c)))
		}
	}
	for _, turn := range h.Turns {
		answers = append(answers, impl.OrderOf(turn))
	}
	return answers
}

// manyHosts have no fault, some of it, or several.
func manyHosts(t *testing.T) []impl.Host {
	hosts := append(otherHosts(t), midHost(t), impl.Host{}, roomyHost(midHost(t)))
	d := dice(79)
	eachHost(&d, hostWorlds(15), 25, func(h impl.Host) {
		hosts = append(hosts, roomyHost(h))
	})
	return hosts
}

func TestAnswersOfHostsHangOnArgumentsAlone(t *testing.T) {
	hosts := manyHosts(t)
	first := make([][]any, len(hosts))
	for i, h := range hosts {
		was := copyOfHost(h)
		first[i] = hostAnswers(h)
		if !sameHostsByHand(fullHost(h), fullHost(was)) {
			t.Errorf("changed: %+v", was)
		}
	}
	for i := len(hosts) - 1; i >= 0; i-- {
		if again := hostAnswers(copyOfHost(hosts[i])); !reflect.DeepEqual(again, first[i]) {
			t.Errorf("another answer of %+v", hosts[i])
		}
	}
}

func TestAFrameIsNotChanged(t *testing.T) {
	h := midHost(t)
	for _, c := range append(goodCommands()[:50], h.Waiting...) {
		whole := append(packByHand(c), 1, 2, 3)
		kept := bytes.Clone(whole)
		for size := range whole {
			impl.HearFrame(h, whole[:size])
			if !bytes.Equal(whole, kept) {
				t.Fatalf("HearFrame changed %v", kept)
			}
		}
	}
}

// roomyHost has room behind the ends of all its lists, and something in it.
func roomyHost(h impl.Host) impl.Host {
	h = copyOfHost(h)
	h.Start, h.World = roomyWorld(h.Start), roomyWorld(h.World)
	h.Waiting, h.Turns = roomy(h.Waiting, impl.Command{Seq: 7}), roomy(h.Turns, []impl.Command{{Seq: 8}})
	for i, turn := range h.Turns {
		h.Turns[i] = roomy(turn, impl.Command{Seq: 9})
	}
	return h
}

func roomyWorld(w impl.World) impl.World {
	w.Board.Units, w.Board.Fields = roomy(w.Board.Units, impl.Unit{Id: 77}), roomy(w.Board.Fields, impl.Field{X: 77})
	w.Factions, w.Seats, w.Offers = roomy(w.Factions, impl.Faction{Purse: 77}), roomy(w.Seats, impl.Seat{Client: 77}), roomy(w.Offers, impl.Offer{From: 77})
	return w
}

func roomy[T any](list []T, behind T) []T {
	return append(slices.Clone(list), behind, behind, behind)[:len(list)]
}

// part is one list of an answer: what writes over it, and what it has.
type part struct {
	spoil func()
	told  func() string
}

func partOf[T any](list []T, spoiled T) part {
	full := list[:cap(list)]
	return part{
		spoil: func() {
			for i := range full {
				full[i] = spoiled
			}
		},
		told: func() string { return fmt.Sprintf("%+v", full) },
	}
}

func partsOfWorld(w impl.World) []part {
	return []part{
		partOf(w.Board.Units, impl.Unit{Id: -7}), partOf(w.Board.Fields, impl.Field{X: -7}),
		partOf(w.Factions, impl.Faction{Purse: -7}), partOf(w.Seats, impl.Seat{Client: -7}), partOf(w.Offers, impl.Offer{From: -7}),
	}
}

// partsOfHost tell of Turns where its turns lie, so that it is not told anew when one of these is written over.
func partsOfHost(r impl.HostResult) []part {
	parts := append(partsOfWorld(r.Host.Start), partsOfWorld(r.Host.World)...)
	parts = append(parts, partOf(r.Codes, -7), partOf(r.Host.Waiting, impl.Command{Client: -7}))
	for _, turn := range r.Host.Turns[:cap(r.Host.Turns)] {
		parts = append(parts, partOf(turn, impl.Command{Client: -7}))
	}
	turns := partOf(r.Host.Turns, nil)
	turns.told = func() string {
		told := ""
		for _, turn := range r.Host.Turns[:cap(r.Host.Turns)] {
			told += fmt.Sprintf("%p ", turn)
		}
		return told
	}
	return append(parts, turns)
}

// checkPartsApart writes over the lists of an answer one by one, and asks that no list behind turns.
func checkPartsApart(t *testing.T, parts []part) {
	t.Helper()
	for i := range parts {
		var was []string
		for _, p := range parts[i+1:] {
			was = append(was, p.told())
		}
		parts[i].spoil()
		for j, p := range parts[i+1:] {
			if told := p.told(); told != was[j] {
				t.Fatalf("lists %d and %d share memory: %s was %s", i, i+1+j, told, was[j])
			}
		}
	}
}

// checkNewHost spoils an answer, and then the argument, and asks that nothing else turns.
func checkNewHost(t *testing.T, h impl.Host, call func(h impl.Host) impl.HostResult) {
	t.Helper()
	mine := copyOfHost(h)
	first, second := call(mine), call(mine)
	codes, kept := slices.Clone(second.Codes), copyOfHost(second.Host)
	for _, p := range partsOfHost(first) {
		p.spoil()
	}
	if !sameHostsByHand(fullHost(mine), fullHost(h)) || !sameHostsByHand(second.Host, kept) || !slices.Equal(second.Codes, codes) {
		t.Fatalf("an answer shares memory: %+v", h)
	}
	for _, p := range partsOfHost(impl.HostResult{Host: mine}) {
		p.spoil()
	}
	if !sameHostsByHand(second.Host, kept) || !slices.Equal(second.Codes, codes) {
		t.Fatalf("an answer shares memory with its argument: %+v", h)
	}
	checkPartsApart(t, partsOfHost(second))
}

func TestAnswersOfHostsAreNewMemory(t *testing.T) {
	done := map[string]int{}
	for _, h := range manyHosts(t) {
		frame := frameAt(2, 998, impl.DoLeave)
		for about, call := range map[string]func(h impl.Host) impl.HostResult{
			"NewHost":   func(h impl.Host) impl.HostResult { return impl.NewHost(h.World) },
			"HearFrame": func(h impl.Host) impl.HostResult { return impl.HearFrame(h, frame) },
			"SealTurn":  impl.SealTurn,
		} {
			if call(h).Code == impl.OK {
				done[about]++
			}
			checkNewHost(t, h, call)
		}
	}
	for _, about := range []string{"NewHost", "HearFrame", "SealTurn"} {
		if done[about] < 100 {
			t.Errorf("%s: too few without a code: %v", about, done)
		}
	}
}

func TestPlayedWorldsAreNewMemory(t *testing.T) {
	for _, h := range manyHosts(t) {
		for _, turns := range [][][]impl.Command{nil, {}, {nil}, {leaves(3), leaves(10)}, h.Turns} {
			checkNewWorld(t, h.Start, func(w impl.World) impl.WorldResult { return impl.PlayTurns(w, turns) })
			checkPartsApart(t, partsOfWorld(impl.PlayTurns(h.Start, turns).World))
		}
	}
}

func TestOrdersAreNewMemory(t *testing.T) {
	d := dice(83)
	for size := range int64(21) {
		list := roomy(d.spoken(size), impl.Command{Seq: 7})
		kept := wholeCopy(list)
		first, second := impl.OrderOf(list), impl.OrderOf(list)
		want := slices.Clone(second.Commands)
		partOf(first.Commands, impl.Command{Client: -7}).spoil()
		if !slices.Equal(list[:cap(list)], kept[:cap(kept)]) || !slices.Equal(second.Commands, want) {
			t.Fatalf("an order of %d shares memory", size)
		}
		partOf(list, impl.Command{Client: -7}).spoil()
		if !slices.Equal(second.Commands, want) {
			t.Fatalf("an order of %d shares memory with its list", size)
		}
	}
}
