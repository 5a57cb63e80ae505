package disk

import (
	"math"
	"slices"
	"strings"
	"testing"
	"unsafe"

	"cryostat/api"
)

// full tells a text of n bytes b.
func full(b byte, n int) string {
	return strings.Repeat(string([]byte{b}), n)
}

// row tells a sector of bytes that rise from first on.
func row(first byte) string {
	b := make([]byte, api.Sector)
	for i := range b {
		b[i] = first + byte(i)
	}
	return string(b)
}

// numbered tells a disk whose sectors tell their numbers, with these writes.
func numbered(writes ...api.Write) api.Disk {
	d := api.Disk{Sectors: make([]string, api.Sectors), Cache: writes}
	for i := range d.Sectors {
		d.Sectors[i] = string([]byte{byte(i >> 8), byte(i)}) + full('.', api.Sector-2)
	}
	return d
}

// to tells a write of bytes b.
func to(at int, b byte) api.Write {
	return api.Write{At: at, Text: full(b, api.Sector)}
}

// many tells n writes, one behind the other at places that come again.
func many(n int) []api.Write {
	writes := make([]api.Write, n)
	for i := range writes {
		writes[i] = to(i%200, byte(i))
	}
	return writes
}

// same asks whether two disks tell the same.
func same(a api.Disk, b api.Disk) bool {
	return slices.Equal(a.Sectors, b.Sectors) && slices.Equal(a.Cache, b.Cache)
}

// is asks that a call told the disk want.
func is(t *testing.T, what string, got api.Disk, e api.Errno, want api.Disk) {
	t.Helper()
	if e != api.OK {
		t.Errorf("%s: error %d", what, e)
		return
	}
	if len(got.Sectors) != len(want.Sectors) || len(got.Cache) != len(want.Cache) {
		t.Errorf("%s: %d sectors, %d writes, not %d, %d", what, len(got.Sectors), len(got.Cache), len(want.Sectors), len(want.Cache))
		return
	}
	for i, s := range want.Sectors {
		if got.Sectors[i] != s {
			t.Errorf("%s: sector %d is %q, not %q", what, i, got.Sectors[i], s)
		}
	}
	for i, w := range want.Cache {
		if g := got.Cache[i]; g != w {
			t.Errorf("%s: write %d is %q at %d, not %q at %d", what, i, g.Text, g.At, w.Text, w.At)
		}
	}
}

// refused asks that a call answered ErrDiskForm, and nothing beside it (R2).
func refused(t *testing.T, what string, got api.Disk, e api.Errno) {
	t.Helper()
	if len(got.Sectors) != 0 || len(got.Cache) != 0 || e != api.ErrDiskForm {
		t.Errorf("%s: %d sectors, %d writes, error %d, not nothing and ErrDiskForm", what, len(got.Sectors), len(got.Cache), e)
	}
}

// fine asks that a disk may be, and that each call takes it.
func fine(t *testing.T, what string, d api.Disk) {
	t.Helper()
	if !May(d) {
		t.Errorf("%s: it may be", what)
	}
	if _, e := Read(d, 0); e != api.OK {
		t.Errorf("%s: Read: error %d", what, e)
	}
	if _, e := Do(d, api.Step{Flush: true}); e != api.OK {
		t.Errorf("%s: Do: error %d", what, e)
	}
	if _, e := Crash(d, "", -1, 0); e != api.OK {
		t.Errorf("%s: Crash: error %d", what, e)
	}
}

// bad asks that a disk may not be, and that each call refuses it.
func bad(t *testing.T, what string, d api.Disk) {
	t.Helper()
	if May(d) {
		t.Errorf("%s: it may not be", what)
	}
	if s, e := Read(d, 0); s != "" || e != api.ErrDiskForm {
		t.Errorf("%s: Read: %q, error %d", what, s, e)
	}
	for _, s := range []api.Step{{}, {Flush: true}, {Write: to(0, 'x')}} {
		got, e := Do(d, s)
		refused(t, what+": Do", got, e)
	}
	got, e := Crash(d, "\x01", 0, 1)
	refused(t, what+": Crash", got, e)
}

// P2.1: New's disk, and that no two of them hang together (R4).
func TestNewIsBlank(t *testing.T) {
	d := New()
	if len(d.Sectors) != 394 || len(d.Cache) != 0 {
		t.Fatalf("New: %d sectors, %d writes", len(d.Sectors), len(d.Cache))
	}
	for i, s := range d.Sectors {
		if s != full(0, 64) {
			t.Errorf("New: sector %d is %q", i, s)
		}
	}
	fine(t, "New", d)
	d.Sectors[3] = row(1)
	if New().Sectors[3] != full(0, 64) {
		t.Error("New: an answer hangs on what was done to another one")
	}
}

// P2.1: how many sectors a disk has, and how long each is.
func TestMaySectors(t *testing.T) {
	bad(t, "no disk at all", api.Disk{})
	bad(t, "writes alone", api.Disk{Cache: many(3)})
	for _, n := range []int{0, 1, api.Sectors - 1, api.Sectors + 1, 2 * api.Sectors} {
		bad(t, "another number of sectors", api.Disk{Sectors: slices.Repeat([]string{row(0)}, n)})
	}
	for _, i := range []int{0, 1, api.HomeAt, api.Sectors - 1} {
		for _, n := range []int{0, 1, api.Half, api.Sector - 1, api.Sector + 1, 2 * api.Sector} {
			d := numbered()
			d.Sectors[i] = full('x', n)
			bad(t, "a sector of another length", d)
		}
		d := numbered()
		d.Sectors[i] = full('x', api.Sector)
		fine(t, "a sector of any bytes", d)
	}
}

// P2.1: how many writes a disk has, where they are, and how long each is.
func TestMayWrites(t *testing.T) {
	for _, n := range []int{0, 1, api.MaxCache - 1, api.MaxCache} {
		fine(t, "as many writes as may be", numbered(many(n)...))
	}
	for _, n := range []int{api.MaxCache + 1, 2 * api.MaxCache} {
		bad(t, "more writes than may be", numbered(many(n)...))
	}
	for _, i := range []int{0, 1, 4} {
		for _, at := range []int{0, 1, api.Sectors - 1} {
			d := numbered(many(5)...)
			d.Cache[i].At = at
			fine(t, "a write at a sector", d)
		}
		for _, at := range []int{-1, api.Sectors, math.MinInt, math.MaxInt} {
			d := numbered(many(5)...)
			d.Cache[i].At = at
			bad(t, "a write at no sector", d)
		}
		for _, n := range []int{0, 1, api.Sector - 1, api.Sector + 1, 2 * api.Sector} {
			d := numbered(many(5)...)
			d.Cache[i].Text = full('x', n)
			bad(t, "a write of another length", d)
		}
	}
}

// P2.1: Read tells the sector, if there is no write there.
func TestReadTellsSectors(t *testing.T) {
	d := numbered(to(4, 'x'))
	for i, want := range d.Sectors {
		if i == 4 {
			want = d.Cache[0].Text
		}
		if got, e := Read(d, i); got != want || e != api.OK {
			t.Errorf("Read at %d: %q, error %d, not %q", i, got, e, want)
		}
	}
}

// P2.1: Read tells the last write at its place, wherever it stands among the others.
func TestReadTellsTheLastWrite(t *testing.T) {
	d := numbered(to(5, 'a'), to(0, 'b'), to(5, 'c'), to(393, 'd'), to(6, 'e'), to(393, 'f'), to(0, 'g'))
	for at, want := range map[int]byte{0: 'g', 5: 'c', 6: 'e', 393: 'f'} {
		if got, e := Read(d, at); got != full(want, api.Sector) || e != api.OK {
			t.Errorf("Read at %d: %q, error %d, not bytes %q", at, got, e, want)
		}
	}
	for _, at := range []int{1, 4, 7, 392} {
		if got, e := Read(d, at); got != d.Sectors[at] || e != api.OK {
			t.Errorf("Read at %d: %q, error %d, not the sector", at, got, e)
		}
	}
}

// P2.1: Read refuses what is no sector's number.
func TestReadRefusesOtherPlaces(t *testing.T) {
	for _, d := range []api.Disk{New(), numbered(many(api.MaxCache)...)} {
		for _, at := range []int{-1, api.Sectors, -api.Sectors, math.MinInt, math.MaxInt} {
			if got, e := Read(d, at); got != "" || e != api.ErrDiskForm {
				t.Errorf("Read at %d: %q, error %d", at, got, e)
			}
		}
	}
}

// P2.2: a write is last, and no sector is another one.
func TestDoWrites(t *testing.T) {
	d := numbered()
	for i, w := range []api.Write{to(7, 'a'), to(0, 'b'), to(7, 'c'), to(393, 0), to(7, 'c'), {At: 1, Text: row(9)}} {
		want := numbered(append(slices.Clone(d.Cache), w)...)
		got, e := Do(d, api.Step{Write: w})
		is(t, "a write", got, e, want)
		if len(got.Cache) != i+1 {
			t.Fatalf("write %d: %d writes", i, len(got.Cache))
		}
		d = got
	}
}

// P2.2: there is room for MaxCache writes, and not for one more; a flush makes room.
func TestDoWritesUpToMaxCache(t *testing.T) {
	d := numbered(many(api.MaxCache - 1)...)
	got, e := Do(d, api.Step{Write: to(9, 'z')})
	is(t, "the last write that may be", got, e, numbered(append(many(api.MaxCache-1), to(9, 'z'))...))
	more, e := Do(got, api.Step{Write: to(9, 'z')})
	refused(t, "a write more than MaxCache", more, e)
	got, e = Do(got, api.Step{Flush: true})
	if e != api.OK || len(got.Cache) != 0 || got.Sectors[9] != full('z', api.Sector) || got.Sectors[199] != full(byte(399&255), api.Sector) {
		t.Errorf("a flush of MaxCache writes: error %d, %d writes left, sector 9 %q, 199 %q", e, len(got.Cache), got.Sectors[9], got.Sectors[199])
	}
	_, e = Do(got, api.Step{Write: to(9, 'z')})
	if e != api.OK {
		t.Errorf("a write behind a flush: error %d", e)
	}
}

// P2.2: a write that may not be is refused, and the step that is nothing is such a write.
func TestDoRefusesWrites(t *testing.T) {
	for _, d := range []api.Disk{New(), numbered(many(3)...)} {
		got, e := Do(d, api.Step{})
		refused(t, "the step that is nothing", got, e)
		for _, at := range []int{-1, api.Sectors, math.MinInt, math.MaxInt} {
			got, e := Do(d, api.Step{Write: to(at, 'x')})
			refused(t, "a write at no sector", got, e)
		}
		for _, n := range []int{0, 1, api.Half, api.Sector - 1, api.Sector + 1} {
			got, e := Do(d, api.Step{Write: api.Write{At: 1, Text: full('x', n)}})
			refused(t, "a write of another length", got, e)
		}
	}
}

// P2.2: a flush makes the writes sectors, in their row, and leaves none.
func TestDoFlushes(t *testing.T) {
	d := numbered(to(5, 'a'), to(0, 'b'), to(5, 'c'), to(393, 'd'), to(0, 'e'), to(6, 'f'))
	want := numbered()
	for at, b := range map[int]byte{0: 'e', 5: 'c', 6: 'f', 393: 'd'} {
		want.Sectors[at] = full(b, api.Sector)
	}
	got, e := Do(d, api.Step{Flush: true})
	is(t, "a flush", got, e, want)
	again, e := Do(got, api.Step{Flush: true})
	is(t, "a flush of no writes", again, e, want)
}

// P2.2: a flush that has a Write is refused, also one that may be.
func TestDoRefusesFlushesThatWrite(t *testing.T) {
	for _, w := range []api.Write{to(0, 0), to(5, 'x'), {At: 1}, {At: -1}, {Text: "x"}, {Text: full('x', api.Sector)}, {At: api.Sectors}} {
		for _, d := range []api.Disk{New(), numbered(many(3)...), numbered(many(api.MaxCache)...)} {
			got, e := Do(d, api.Step{Flush: true, Write: w})
			refused(t, "a flush that writes", got, e)
		}
	}
}

// P2.3: of each write whether its byte of keep is odd, whatever byte it is.
func TestCrashKeepsOddBytes(t *testing.T) {
	for b := range 256 {
		d := numbered(to(3, 'a'), to(4, 'b'))
		want := numbered()
		if b%2 == 1 {
			want.Sectors[3] = full('a', api.Sector)
		} else {
			want.Sectors[4] = full('b', api.Sector)
		}
		got, e := Crash(d, string([]byte{byte(b), byte(b + 1)}), -1, 0)
		is(t, "a crash", got, e, want)
	}
}

// P2.3: each choice of four writes, two of them at one place, with keeps that are longer and shorter than they.
func TestCrashKeepsAnyChoice(t *testing.T) {
	writes := []api.Write{to(3, 'a'), to(8, 'b'), to(3, 'c'), to(0, 'd')}
	for n := range 7 {
		for choice := range 1 << n {
			keep := make([]byte, n)
			want := numbered()
			for i := range n {
				keep[i] = byte(choice >> i & 1)
				if i < len(writes) && keep[i] == 1 {
					want.Sectors[writes[i].At] = writes[i].Text
				}
			}
			got, e := Crash(numbered(writes...), string(keep), -1, 0)
			is(t, "a crash", got, e, want)
		}
	}
}

// P2.3: the torn write's first bytes over what the sector is then; keep says nothing of it, and at nothing of others.
func TestCrashTears(t *testing.T) {
	writes := []api.Write{{At: 3, Text: row(0)}, {At: 3, Text: row(100)}, {At: 3, Text: row(190)}}
	old := numbered().Sectors[3]
	for at := 0; at <= api.Sector; at++ {
		for _, c := range []struct {
			keep string
			torn int
			want string
		}{
			{"", 0, row(0)[:at] + old[at:]},
			{"", 1, row(100)[:at] + old[at:]},
			{"\x01\x01\x01", 0, row(190)},
			{"\x01\x01", 0, row(100)},
			{"\x01", 0, row(0)[:at] + old[at:]},
			{"\x00", 0, row(0)[:at] + old[at:]},
			{"\x01", 1, row(100)[:at] + row(0)[at:]},
			{"\x01\x01", 1, row(100)[:at] + row(0)[at:]},
			{"\x01\x01\x00", 2, row(190)[:at] + row(100)[at:]},
			{"\x00\x01\x01", 2, row(190)[:at] + row(100)[at:]},
			{"\x01\x00\x01", 1, row(190)},
			{"\x01\x00\x01", 2, row(190)[:at] + row(0)[at:]},
		} {
			want := numbered()
			want.Sectors[3] = c.want
			got, e := Crash(numbered(writes...), c.keep, c.torn, at)
			is(t, "a crash that tears", got, e, want)
		}
	}
}

// P2.3: a torn number that no write has tears nothing, and is not refused.
func TestCrashTearsNoOtherNumber(t *testing.T) {
	for _, torn := range []int{-1, 2, 3, math.MinInt, math.MaxInt} {
		for at := 0; at <= api.Sector; at += api.Half {
			want := numbered()
			want.Sectors[6] = full('b', api.Sector)
			got, e := Crash(numbered(to(3, 'a'), to(6, 'b')), "\x00\x01\x01", torn, at)
			is(t, "a crash that tears nothing", got, e, want)
		}
	}
	got, e := Crash(numbered(), "\x01\x01", 0, api.Half)
	is(t, "a crash without writes", got, e, numbered())
}

// P2.3: of MaxCache writes the last one, too.
func TestCrashOfMaxCacheWrites(t *testing.T) {
	writes := append(many(api.MaxCache-1), to(300, 'x'))
	want := numbered()
	want.Sectors[300] = full('x', api.Sector)
	got, e := Crash(numbered(writes...), full(2, api.MaxCache-1)+"\x03", -1, 0)
	is(t, "a crash that keeps the last write", got, e, want)
	want.Sectors[300] = full('x', 5) + numbered().Sectors[300][5:]
	got, e = Crash(numbered(writes...), "", api.MaxCache-1, 5)
	is(t, "a crash that tears the last write", got, e, want)
}

// P2.3: at is from 0 to Sector, also where nothing is torn.
func TestCrashRefusesOtherPlaces(t *testing.T) {
	for _, d := range []api.Disk{New(), numbered(many(2)...)} {
		for _, torn := range []int{-1, 0, 5} {
			for _, at := range []int{-1, api.Sector + 1, math.MinInt, math.MaxInt} {
				got, e := Crash(d, "\x01\x01", torn, at)
				refused(t, "a crash at another place", got, e)
			}
		}
	}
}

// roomy tells a disk whose lists have spare room, which is full of what no call may touch.
func roomy(writes ...api.Write) api.Disk {
	d := numbered()
	sectors := append(slices.Clone(d.Sectors), "spare", "spare")
	cache := append(slices.Clone(writes), api.Write{At: -7, Text: "spare"}, api.Write{At: -8, Text: "spare"})
	return api.Disk{Sectors: sectors[:len(d.Sectors)], Cache: cache[:len(writes)]}
}

// whole tells d with its spare room.
func whole(d api.Disk) api.Disk {
	return api.Disk{Sectors: d.Sectors[:cap(d.Sectors)], Cache: d.Cache[:cap(d.Cache)]}
}

// R4: no call changes what is handed in, its spare room neither, and none keeps it.
func TestArgumentsStayAsTheyAre(t *testing.T) {
	calls := map[string]func(d api.Disk) api.Disk{
		"a write": func(d api.Disk) api.Disk { got, _ := Do(d, api.Step{Write: to(9, 'z')}); return got },
		"a flush": func(d api.Disk) api.Disk { got, _ := Do(d, api.Step{Flush: true}); return got },
		"a crash": func(d api.Disk) api.Disk { got, _ := Crash(d, "\x01\x01", 0, 9); return got },
		"another step": func(d api.Disk) api.Disk {
			got, _ := Do(d, api.Step{Flush: true, Write: to(9, 'z')})
			return got
		},
		"a read": func(d api.Disk) api.Disk { _, _ = Read(d, 3); return api.Disk{} },
	}
	for what, call := range calls {
		d := roomy(to(3, 'a'), to(4, 'b'))
		old := api.Disk{Sectors: slices.Clone(whole(d).Sectors), Cache: slices.Clone(whole(d).Cache)}
		got := call(d)
		if !same(whole(d), old) {
			t.Errorf("%s: it changed what was handed in", what)
		}
		kept := api.Disk{Sectors: slices.Clone(got.Sectors), Cache: slices.Clone(got.Cache)}
		for i := range d.Sectors {
			d.Sectors[i] = "turned"
		}
		for i := range d.Cache {
			d.Cache[i] = api.Write{At: 99, Text: "turned"}
		}
		if !same(got, kept) {
			t.Errorf("%s: the answer turned with what was handed in", what)
		}
	}
}

// R4: no answer's text lies in the memory of what was handed in, nor in that of another answer.
func TestTextsShareNoMemory(t *testing.T) {
	d, w := numbered(to(3, 'a'), to(4, 'b')), to(9, 'z')
	written, _ := Do(d, api.Step{Write: w})
	flushed, _ := Do(d, api.Step{Flush: true})
	crashed, _ := Crash(d, "\x01", 1, api.Sector)
	uncached, _ := Read(d, 0)
	cached, _ := Read(d, 3)
	answers := [][]string{texts(New()), texts(New()), texts(written), texts(flushed), texts(crashed), {uncached}, {cached}}
	for i, answer := range answers {
		others := append(texts(d), w.Text)
		for _, other := range answers[:i] {
			others = append(others, other...)
		}
		for _, a := range answer {
			if slices.ContainsFunc(others, func(b string) bool { return overlap(a, b) }) {
				t.Fatalf("answer %d: %q lies in the memory of another text", i, a)
			}
		}
	}
}

// texts tells all texts of a disk.
func texts(d api.Disk) []string {
	all := slices.Clone(d.Sectors)
	for _, w := range d.Cache {
		all = append(all, w.Text)
	}
	return all
}

// overlap asks whether two texts, neither empty, have a byte of memory in common.
func overlap(a string, b string) bool {
	x := uintptr(unsafe.Pointer(unsafe.StringData(a)))
	y := uintptr(unsafe.Pointer(unsafe.StringData(b)))
	return x < y+uintptr(len(b)) && y < x+uintptr(len(a))
}

// R5: the same arguments, the same answer, whatever was done in between.
func TestAnswersHangOnArgumentsAlone(t *testing.T) {
	d := numbered(to(3, 'a'), to(3, 'b'))
	first, _ := Crash(d, "\x01", 1, 7)
	_, _ = Do(d, api.Step{Write: to(-1, 'x')})
	_, _ = Do(first, api.Step{Write: to(3, 'x')})
	again, e := Crash(d, "\x01", 1, 7)
	is(t, "the same crash", again, e, first)
	if !same(New(), New()) {
		t.Error("New: not the same disk each time")
	}
}
