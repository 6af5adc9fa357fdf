package tests

import (
	"bytes"
	"fmt"
	"math"
	"math/big"
	"reflect"
	"strings"
	"testing"

	"loop.example/g00646/impl"
)

const mostParam = 1000000

// kindsByHand tells of each kind, by its number less 1, its word and how many of A, B, C it has.
var kindsByHand = []struct {
	word  string
	count int64
}{
	{"move", 3}, {"harvest", 2}, {"attack", 2}, {"tribute", 2}, {"gift", 2}, {"offer", 1},
	{"accept", 1}, {"break", 1}, {"mask", 2}, {"surrender", 0}, {"leave", 0},
}

func within(v int64, low int64, high int64) bool {
	return v >= low && v <= high
}

func faultByHand(c impl.Command) int64 {
	if !within(c.Client, 0, 5) || !within(c.Seq, 1, 999) || !within(c.Kind, 1, 11) {
		return impl.ErrRange
	}
	count := kindsByHand[c.Kind-1].count
	if count < 1 && c.A != 0 || count < 2 && c.B != 0 || count < 3 && c.C != 0 {
		return impl.ErrForm
	}
	if !within(c.A, 0, mostParam) || !within(c.B, 0, mostParam) || !within(c.C, 0, mostParam) {
		return impl.ErrRange
	}
	return impl.OK
}

// sumByHand adds up all pows at once, where the program goes byte by byte.
func sumByHand(data []byte) int64 {
	sum, pow := new(big.Int), big.NewInt(1)
	for i := len(data) - 1; i >= 0; i-- {
		sum.Add(sum, new(big.Int).Mul(pow, big.NewInt(int64(data[i])+1)))
		pow.Mul(pow, big.NewInt(227))
	}
	sum.Add(sum, pow.Mul(pow, big.NewInt(29)))
	return sum.Mod(sum, big.NewInt(65521)).Int64()
}

// frameOf lays bytes out as a command's, within bounds or not, with the sum that fits them.
func frameOf(client byte, kind byte, seq uint16, params ...uint32) []byte {
	data := []byte{client, kind, byte(seq / 256), byte(seq % 256)}
	for _, v := range params {
		data = append(data, byte(v/65536), byte(v/256), byte(v))
	}
	return withSum(data)
}

func withSum(data []byte) []byte {
	sum := sumByHand(data)
	return append(bytes.Clone(data), byte(sum/256), byte(sum%256))
}

func packByHand(c impl.Command) []byte {
	params := []uint32{uint32(c.A), uint32(c.B), uint32(c.C)}[:kindsByHand[c.Kind-1].count]
	return frameOf(byte(c.Client), byte(c.Kind), uint16(c.Seq), params...)
}

func textOfCommand(c impl.Command) string {
	words := []string{kindsByHand[c.Kind-1].word, fmt.Sprint(c.A), fmt.Sprint(c.B), fmt.Sprint(c.C)}
	return strings.Join(words[:1+kindsByHand[c.Kind-1].count], " ")
}

func wantBytes(t *testing.T, call string, got impl.BytesResult, code int64, data []byte) {
	t.Helper()
	if got.Code != code || !bytes.Equal(got.Bytes, data) {
		t.Errorf("%s: got %+v, want code %d and %v", call, got, code, data)
	}
}

func wantCommand(t *testing.T, call string, got impl.CommandResult, code int64, c impl.Command) {
	t.Helper()
	if want := (impl.CommandResult{Code: code, Command: c}); got != want {
		t.Errorf("%s: got %+v, want %+v", call, got, want)
	}
}

func wantUnread(t *testing.T, data []byte) {
	t.Helper()
	wantCommand(t, fmt.Sprintf("ReadCommand(%v)", data), impl.ReadCommand(data), impl.ErrText, impl.Command{})
}

// goodCommands are of every kind, with what it has at the ends of its bounds and between.
func goodCommands() []impl.Command {
	values := []int64{0, 1, 255, 256, 65535, 65536, 66051, mostParam - 1, mostParam}
	var list []impl.Command
	for kind := int64(1); kind <= 11; kind++ {
		count := kindsByHand[kind-1].count
		for i, seq := range []int64{1, 2, 255, 256, 257, 258, 515, 767, 768, 998, 999} {
			for j := range values {
				c := impl.Command{Client: int64((i + j) % 6), Seq: seq, Kind: kind}
				for place, at := range []*int64{&c.A, &c.B, &c.C}[:count] {
					*at = values[(j*(place+1)+i*place)%len(values)]
				}
				list = append(list, c)
			}
		}
	}
	return list
}

func TestKinds(t *testing.T) {
	kinds := []int64{impl.DoMove, impl.DoHarvest, impl.DoAttack, impl.DoTribute, impl.DoGift, impl.DoOffer,
		impl.DoAccept, impl.DoBreak, impl.DoMask, impl.DoSurrender, impl.DoLeave}
	for i, kind := range kinds {
		if kind != int64(i)+1 {
			t.Errorf("kind number %d is %d", i+1, kind)
		}
		wantInt(t, fmt.Sprintf("ParamsOf(%d)", kind), impl.ParamsOf(kind), impl.OK, kindsByHand[i].count)
	}
	for _, kind := range append(outside(1, 11), -11, 255, 256, 257, 267, 1<<32+1) {
		wantInt(t, fmt.Sprintf("ParamsOf(%d)", kind), impl.ParamsOf(kind), impl.ErrRange, 0)
	}
}

func TestPackedByHand(t *testing.T) {
	for _, c := range []struct {
		command impl.Command
		data    []byte
		text    string
	}{
		{impl.Command{Client: 1, Seq: 258, Kind: impl.DoMove, A: 1, B: 2, C: 3}, []byte{1, 1, 1, 2, 0, 0, 1, 0, 0, 2, 0, 0, 3, 47, 187}, "move 1 2 3"},
		{impl.Command{Client: 5, Seq: 999, Kind: impl.DoMove, A: mostParam, B: mostParam, C: mostParam}, []byte{5, 1, 3, 231, 15, 66, 64, 15, 66, 64, 15, 66, 64, 173, 44}, "move 1000000 1000000 1000000"},
		{impl.Command{Client: 3, Seq: 513, Kind: impl.DoGift, A: 258, B: mostParam}, []byte{3, 5, 2, 1, 0, 1, 2, 15, 66, 64, 34, 217}, "gift 258 1000000"},
		{impl.Command{Client: 2, Seq: 999, Kind: impl.DoOffer, A: 3}, []byte{2, 6, 3, 231, 0, 0, 3, 71, 110}, "offer 3"},
		{impl.Command{Seq: 1, Kind: impl.DoSurrender}, []byte{0, 10, 0, 1, 224, 45}, "surrender"},
		{impl.Command{Client: 1, Seq: 2, Kind: impl.DoLeave}, []byte{1, 11, 0, 2, 47, 190}, "leave"},
	} {
		call := fmt.Sprintf("of %+v", c.command)
		wantBytes(t, "PackCommand "+call, impl.PackCommand(c.command), impl.OK, c.data)
		wantCommand(t, "ReadCommand "+call, impl.ReadCommand(c.data), impl.OK, c.command)
		wantText(t, "CommandText "+call, impl.CommandText(c.command), impl.OK, c.text)
	}
}

func TestTextOfEachKind(t *testing.T) {
	for _, c := range []struct {
		kind, a, b, c int64
		text          string
	}{
		{impl.DoMove, 7, 11, 0, "move 7 11 0"},
		{impl.DoHarvest, 7, 3, 0, "harvest 7 3"},
		{impl.DoAttack, 7, 12, 0, "attack 7 12"},
		{impl.DoTribute, 2, mostParam, 0, "tribute 2 1000000"},
		{impl.DoGift, 99, 1, 0, "gift 99 1"},
		{impl.DoOffer, 3, 0, 0, "offer 3"},
		{impl.DoAccept, 0, 0, 0, "accept 0"},
		{impl.DoBreak, 10, 0, 0, "break 10"},
		{impl.DoMask, 0, 2047, 0, "mask 0 2047"},
		{impl.DoSurrender, 0, 0, 0, "surrender"},
		{impl.DoLeave, 0, 0, 0, "leave"},
	} {
		command := impl.Command{Client: 4, Seq: 17, Kind: c.kind, A: c.a, B: c.b, C: c.c}
		wantText(t, fmt.Sprintf("CommandText of %+v", command), impl.CommandText(command), impl.OK, c.text)
	}
}

func TestEveryCommandIsReadBack(t *testing.T) {
	texts := map[string]impl.Command{}
	for _, c := range goodCommands() {
		call := fmt.Sprintf("of %+v", c)
		if code := impl.CommandFault(c); code != impl.OK {
			t.Errorf("CommandFault %s: %d", call, code)
		}
		data := impl.PackCommand(c)
		wantBytes(t, "PackCommand "+call, data, impl.OK, packByHand(c))
		wantCommand(t, "ReadCommand "+call, impl.ReadCommand(data.Bytes), impl.OK, c)
		wantText(t, "CommandText "+call, impl.CommandText(c), impl.OK, textOfCommand(c))
		if before, ok := texts[string(data.Bytes)]; ok && before != c {
			t.Errorf("%+v has the bytes of %+v", c, before)
		}
		texts[string(data.Bytes)] = c
	}
}

func TestEveryClientAndSeqIsReadBack(t *testing.T) {
	for client := int64(0); client <= 5; client++ {
		for seq := int64(1); seq <= 999; seq++ {
			for kind := int64(1); kind <= 11; kind++ {
				c := impl.Command{Client: client, Seq: seq, Kind: kind}
				data := impl.PackCommand(c)
				wantBytes(t, fmt.Sprintf("PackCommand of %+v", c), data, impl.OK, packByHand(c))
				wantCommand(t, fmt.Sprintf("ReadCommand of %+v", c), impl.ReadCommand(data.Bytes), impl.OK, c)
			}
		}
	}
}

func TestFaultsInTheirOrder(t *testing.T) {
	for _, c := range []struct {
		command impl.Command
		code    int64
	}{
		{impl.Command{Client: 0, Seq: 1, Kind: impl.DoMove}, impl.OK},
		{impl.Command{Client: 5, Seq: 999, Kind: impl.DoLeave}, impl.OK},
		{impl.Command{}, impl.ErrRange},
		{impl.Command{Seq: 1}, impl.ErrRange},
		{impl.Command{Client: 6, Seq: 1, Kind: impl.DoMove}, impl.ErrRange},
		{impl.Command{Client: -1, Seq: 1, Kind: impl.DoMove}, impl.ErrRange},
		{impl.Command{Seq: 0, Kind: impl.DoMove}, impl.ErrRange},
		{impl.Command{Seq: 1000, Kind: impl.DoMove}, impl.ErrRange},
		{impl.Command{Seq: 1, Kind: 12}, impl.ErrRange},
		// It has what its kind has not as well, but the bounds are asked first.
		{impl.Command{Client: 6, Seq: 1, Kind: impl.DoLeave, A: 1}, impl.ErrRange},
		{impl.Command{Seq: 1000, Kind: impl.DoOffer, B: 1}, impl.ErrRange},
		{impl.Command{Seq: 1, Kind: 12, A: 1}, impl.ErrRange},
		{impl.Command{Seq: 1, Kind: impl.DoLeave, A: 1}, impl.ErrForm},
		{impl.Command{Seq: 1, Kind: impl.DoSurrender, C: mostParam}, impl.ErrForm},
		{impl.Command{Seq: 1, Kind: impl.DoOffer, A: 1, B: 1}, impl.ErrForm},
		{impl.Command{Seq: 1, Kind: impl.DoGift, A: 1, B: 1, C: 1}, impl.ErrForm},
		// What it has not is out of bounds as well.
		{impl.Command{Seq: 1, Kind: impl.DoLeave, A: -1}, impl.ErrForm},
		{impl.Command{Seq: 1, Kind: impl.DoGift, C: mostParam + 1}, impl.ErrForm},
		// What it has is out of bounds as well, but the form is asked first.
		{impl.Command{Seq: 1, Kind: impl.DoGift, A: -1, C: 1}, impl.ErrForm},
		{impl.Command{Seq: 1, Kind: impl.DoBreak, A: mostParam + 1, B: 1}, impl.ErrForm},
		{impl.Command{Seq: 1, Kind: impl.DoMove, A: -1}, impl.ErrRange},
		{impl.Command{Seq: 1, Kind: impl.DoMove, B: mostParam + 1}, impl.ErrRange},
		{impl.Command{Seq: 1, Kind: impl.DoMove, C: mostParam + 1}, impl.ErrRange},
		{impl.Command{Seq: 1, Kind: impl.DoMask, B: -1}, impl.ErrRange},
		{impl.Command{Seq: 1, Kind: impl.DoAccept, A: mostParam + 1}, impl.ErrRange},
	} {
		if got := impl.CommandFault(c.command); got != c.code {
			t.Errorf("CommandFault(%+v): got %d, want %d", c.command, got, c.code)
		}
	}
}

// eachEdge calls try with all ends of all bounds, and what lies beyond, in every field.
func eachEdge(try func(c impl.Command)) {
	params := append(outside(0, mostParam), 0, 1, mostParam)
	kinds := outside(1, 11)
	for kind := int64(1); kind <= 11; kind++ {
		kinds = append(kinds, kind)
	}
	for _, client := range append(outside(0, 5), 0, 5) {
		for _, seq := range append(outside(1, 999), 1, 999) {
			for _, kind := range kinds {
				for i := range len(params) * len(params) * len(params) {
					a, b, c := i%len(params), i/len(params)%len(params), i/len(params)/len(params)
					try(impl.Command{Client: client, Seq: seq, Kind: kind, A: params[a], B: params[b], C: params[c]})
				}
			}
		}
	}
}

func TestEdgesOfEveryField(t *testing.T) {
	eachEdge(func(c impl.Command) {
		code, data, text := faultByHand(c), []byte(nil), ""
		if code == impl.OK {
			data, text = packByHand(c), textOfCommand(c)
		}
		fault, packed, told := impl.CommandFault(c), impl.PackCommand(c), impl.CommandText(c)
		if fault != code || packed.Code != code || !bytes.Equal(packed.Bytes, data) || told != (impl.TextResult{Code: code, Text: text}) {
			t.Errorf("of %+v: got %d, %+v, %+v, want code %d, %v, %q", c, fault, packed, told, code, data, text)
		}
		if code == impl.OK {
			wantCommand(t, fmt.Sprintf("ReadCommand of %+v", c), impl.ReadCommand(data), impl.OK, c)
		}
	})
}

func TestATurnedByteIsTold(t *testing.T) {
	for _, c := range goodCommands() {
		data := impl.PackCommand(c).Bytes
		for place := range data {
			for turn := 1; turn < 256; turn++ {
				turned := bytes.Clone(data)
				turned[place] ^= byte(turn)
				if got := impl.ReadCommand(turned); got != (impl.CommandResult{Code: impl.ErrText}) {
					t.Fatalf("%+v, byte %d turned by %d: %+v", c, place, turn, got)
				}
			}
		}
	}
}

func TestBytesThatAreTooFewOrTooMany(t *testing.T) {
	wantUnread(t, nil)
	wantUnread(t, []byte{})
	for _, c := range goodCommands() {
		data := impl.PackCommand(c).Bytes
		for size := range len(data) {
			wantUnread(t, data[:size])
			wantUnread(t, data[len(data)-size:])
			wantUnread(t, append(bytes.Clone(data[:size]), data[size+1:]...))
		}
		for b := range 256 {
			wantUnread(t, append(bytes.Clone(data), byte(b)))
			wantUnread(t, append([]byte{byte(b)}, data...))
		}
		wantUnread(t, append(bytes.Clone(data), data...))
	}
	wantUnread(t, make([]byte, 1<<16))
}

// Of every length, with the sum that fits: only the length that the kind asks for is one.
func TestASumThatFitsAnotherLength(t *testing.T) {
	for kind := range 256 {
		for size := range 24 {
			data := make([]byte, size)
			for i, b := range []byte{1, byte(kind), 0, 9}[:min(size, 4)] {
				data[i] = b
			}
			if within(int64(kind), 1, 11) && size == 4+3*int(kindsByHand[kind-1].count) {
				wantCommand(t, fmt.Sprintf("kind %d of %d bytes", kind, size), impl.ReadCommand(withSum(data)), impl.OK, impl.Command{Client: 1, Seq: 9, Kind: int64(kind)})
				continue
			}
			wantUnread(t, withSum(data))
		}
	}
}

func TestASumThatFitsWhatIsOutOfBounds(t *testing.T) {
	for i, k := range kindsByHand {
		kind, good := byte(i+1), make([]uint32, k.count)
		for client := 6; client < 256; client++ {
			wantUnread(t, frameOf(byte(client), kind, 1, good...))
		}
		for _, seq := range []uint16{0, 1000, 1001, 1023, 1024, 1025, 32767, 32768, 65534, 65535} {
			wantUnread(t, frameOf(0, kind, seq, good...))
		}
		for place := range good {
			for _, v := range []uint32{mostParam + 1, mostParam + 2, 1<<20 - 1, 1 << 20, 1 << 23, 1<<24 - 1} {
				bad := make([]uint32, k.count)
				bad[place] = v
				wantUnread(t, frameOf(0, kind, 1, bad...))
			}
		}
		// What the kind has not is not written, not even as 0.
		wantUnread(t, frameOf(0, kind, 1, append(good, 0)...))
	}
	for _, kind := range []byte{0, 12, 13, 127, 128, 255} {
		for count := range 5 {
			wantUnread(t, frameOf(0, kind, 1, make([]uint32, count)...))
		}
	}
}

// Two bytes could hold some sums a second time, with all of the bound more.
func TestASumHasOneWayToBeWritten(t *testing.T) {
	tried := 0
	for a := int64(0); a < 100000; a++ {
		c := impl.Command{Client: 2, Seq: 5, Kind: impl.DoOffer, A: a}
		data := impl.PackCommand(c).Bytes
		body := len(data) - 2
		sum := int(data[body])*256 + int(data[body+1])
		if sum+65521 > math.MaxUint16 {
			continue
		}
		tried++
		wantUnread(t, append(bytes.Clone(data[:body]), byte((sum+65521)>>8), byte(sum+65521)))
	}
	if tried == 0 {
		t.Error("no sum was low enough")
	}
}

func TestEverySumOfOneCommand(t *testing.T) {
	c := impl.Command{Client: 3, Seq: 300, Kind: impl.DoTribute, A: 2, B: 70000}
	data := impl.PackCommand(c).Bytes
	body := len(data) - 2
	read := 0
	for sum := range 65536 {
		other := append(bytes.Clone(data[:body]), byte(sum>>8), byte(sum))
		got := impl.ReadCommand(other)
		if got.Code == impl.OK {
			read++
		}
		if bytes.Equal(other, data) != (got == impl.CommandResult{Command: c}) {
			t.Errorf("sum %d: %+v", sum, got)
		}
	}
	if read != 1 {
		t.Errorf("read by %d sums", read)
	}
}

func TestSameCommands(t *testing.T) {
	all := goodCommands()[:12]
	// Commands with faults are held against each other as well.
	all = append(all, impl.Command{}, impl.Command{Client: -1, Seq: math.MinInt64, Kind: 12, A: math.MaxInt64, B: -1, C: mostParam + 1})
	again := append([]impl.Command{}, all...)
	same := func(a []impl.Command, b []impl.Command, want bool) {
		t.Helper()
		if impl.SameCommands(a, b) != want || impl.SameCommands(b, a) != want {
			t.Errorf("SameCommands of %v and %v is not %t", a, b, want)
		}
	}
	same(all, all, true)
	same(all, again, true)
	same(nil, nil, true)
	same(nil, []impl.Command{}, true)
	same(all[:0], nil, true)
	same(all[:1], nil, false)
	for size := range len(all) {
		same(all[:size], again[:size], true)
		same(all[:size], again, false)
		same(all[len(all)-size:], again, false)
	}
	same([]impl.Command{all[0], all[1]}, []impl.Command{all[1], all[0]}, false)
	same([]impl.Command{all[0]}, []impl.Command{all[0], all[0]}, false)
	same([]impl.Command{{}}, nil, false)
}

func TestOneFieldOfOneCommandDiffers(t *testing.T) {
	all := goodCommands()[:7]
	for i := range all {
		for field := range 6 {
			for _, by := range []int64{1, -1, 256, 1 << 32, math.MinInt64} {
				other := append([]impl.Command{}, all...)
				c := &other[i]
				*[]*int64{&c.Client, &c.Seq, &c.Kind, &c.A, &c.B, &c.C}[field] += by
				if impl.SameCommands(all, other) || impl.SameCommands(other, all) {
					t.Errorf("command %d, field %d and %d more: the same", i, field, by)
				}
			}
		}
	}
}

func commandAnswers(c impl.Command, data []byte) []any {
	list := []impl.Command{c, {}}
	return []any{
		impl.CommandFault(c), impl.PackCommand(c), impl.CommandText(c), impl.ReadCommand(data), impl.ParamsOf(c.Kind),
		impl.ParamsOf(c.Seq), impl.SameCommands(list, list), impl.SameCommands(list[:1], list),
	}
}

func TestCommandsHangOnTheirArgumentsAlone(t *testing.T) {
	commands := goodCommands()
	for i := range commands {
		switch i % 4 {
		case 1:
			commands[i].Kind += 11
		case 2:
			commands[i].C += mostParam
		case 3:
			commands[i].Seq = math.MinInt64
		}
	}
	good := goodCommands()
	first := make([][]any, len(commands))
	ask := func(i int) []any {
		return commandAnswers(commands[i], impl.PackCommand(good[i]).Bytes[i%2:])
	}
	for i := range commands {
		first[i] = ask(i)
	}
	for i := len(commands) - 1; i >= 0; i-- {
		if again := ask(i); !reflect.DeepEqual(again, first[i]) {
			t.Errorf("of %+v: first %v, then %v", commands[i], first[i], again)
		}
	}
}

func TestCommandsChangeNoArgument(t *testing.T) {
	for _, c := range goodCommands() {
		for _, turn := range []byte{0, 1} {
			room := append(packByHand(c), 77, 77, 77)
			data := room[:len(room)-3]
			data[0] ^= turn
			before := bytes.Clone(room)
			impl.ReadCommand(data)
			if !bytes.Equal(room, before) {
				t.Fatalf("ReadCommand turned %v into %v", before, room)
			}
		}
	}
	a, b := goodCommands(), goodCommands()
	b[3].Seq++
	impl.SameCommands(a, b)
	if want := goodCommands(); !reflect.DeepEqual(a, want) || b[3].Seq != want[3].Seq+1 {
		t.Error("SameCommands changed a list")
	}
}

func TestPackedBytesAreNewMemory(t *testing.T) {
	for _, c := range goodCommands() {
		first, second := impl.PackCommand(c), impl.PackCommand(c)
		for i := range first.Bytes {
			first.Bytes[i] ^= 255
		}
		// What lies behind the end must not be another's, either.
		behind := first.Bytes[:cap(first.Bytes)]
		for i := range behind {
			behind[i] = 99
		}
		wantBytes(t, fmt.Sprintf("PackCommand of %+v that was there already", c), second, impl.OK, packByHand(c))
		wantBytes(t, fmt.Sprintf("PackCommand of %+v again", c), impl.PackCommand(c), impl.OK, packByHand(c))
	}
}

func FuzzReadCommand(f *testing.F) {
	for i, c := range goodCommands() {
		if i%20 == 0 {
			f.Add(packByHand(c))
		}
	}
	f.Fuzz(func(t *testing.T, data []byte) {
		for _, d := range [][]byte{data, withSum(data)} {
			got := impl.ReadCommand(d)
			if got.Code == impl.OK {
				wantBytes(t, fmt.Sprintf("PackCommand of %+v", got.Command), impl.PackCommand(got.Command), impl.OK, d)
			} else {
				wantCommand(t, fmt.Sprintf("ReadCommand(%v)", d), got, impl.ErrText, impl.Command{})
			}
		}
	})
}
