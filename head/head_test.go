package head

import (
	"math"
	"strings"
	"testing"
	"unsafe"

	"cryostat/api"
	"cryostat/pair"
)

// zeros tells n bytes 0.
func zeros(n int) string {
	return strings.Repeat("\x00", n)
}

// with tells s with v at place i.
func with(s string, i int, v byte) string {
	b := []byte(s)
	b[i] = v
	return string(b)
}

// reckoned tells the four bytes of n, the highest first, by division.
func reckoned(n int) string {
	return string([]byte{byte(n / 16777216), byte(n / 65536 % 256), byte(n / 256 % 256), byte(n % 256)})
}

// stands asks that h may be, and that s is what Put tells of it, and it what Get tells of s.
func stands(t *testing.T, h api.Head, s string) {
	t.Helper()
	if !May(h) {
		t.Errorf("May(%+v): it may be", h)
	}
	if got, e := Put(h); got != s || e != api.OK {
		t.Errorf("Put(%+v): %q, error %d, not %q", h, got, e, s)
	}
	if got, e := Get(s); got != h || e != api.OK {
		t.Errorf("Get(%q): %+v, error %d, not %+v", s, got, e, h)
	}
}

// mayNot asks that h may not be, and that Put refuses it, and tells nothing beside (R2).
func mayNot(t *testing.T, h api.Head) {
	t.Helper()
	if May(h) {
		t.Errorf("May(%+v): it may not be", h)
	}
	if got, e := Put(h); got != "" || e != api.ErrHeadForm {
		t.Errorf("Put(%+v): %q, error %d, not an empty text and ErrHeadForm", h, got, e)
	}
}

// refused asks that Get refuses s, and tells nothing beside (R2).
func refused(t *testing.T, s string) {
	t.Helper()
	if got, e := Get(s); got != (api.Head{}) || e != api.ErrHeadForm {
		t.Errorf("Get(%q): %+v, error %d, not nothing and ErrHeadForm", s, got, e)
	}
}

// best asks that want is the head of the two sectors.
func best(t *testing.T, a string, b string, want api.Head) {
	t.Helper()
	if got, e := Best(a, b); got != want || e != api.OK {
		t.Errorf("Best(%q, %q): %+v, error %d, not %+v", a, b, got, e, want)
	}
}

// none asks that the two sectors have no head, and that nothing is told beside (R2).
func none(t *testing.T, a string, b string) {
	t.Helper()
	if got, e := Best(a, b); got != (api.Head{}) || e != api.ErrHeadNone {
		t.Errorf("Best(%q, %q): %+v, error %d, not nothing and ErrHeadNone", a, b, got, e)
	}
}

// mustPair tells the sector of Half bytes.
func mustPair(t *testing.T, s string) string {
	t.Helper()
	x, e := pair.Put(s)
	if e != api.OK {
		t.Fatalf("pair.Put(%q): error %d", s, e)
	}
	return x
}

// sector tells the sector of h.
func sector(t *testing.T, h api.Head) string {
	t.Helper()
	s, e := Put(h)
	if e != api.OK {
		t.Fatalf("Put(%+v): error %d", h, e)
	}
	return mustPair(t, s)
}

// headless tells texts of which none is a head's sector, h's Half bytes and its sector with a fault among them.
func headless(t *testing.T, h api.Head) []string {
	t.Helper()
	s, _ := Put(h)
	x := sector(t, h)
	list := []string{
		"", "x", s, s + s, s + zeros(32), zeros(64), strings.Repeat("\xff", 64), x[32:] + x[:32],
		x[:63], x[1:], x[:32], x[32:], x + "\x00", "\x00" + x, x + x,
		with(x, 0, 'C'), with(x, 63, x[63]^1), with(x, 31, 1), with(x, 32, 0),
	}
	for _, other := range []string{zeros(32), "Cryo" + s[4:], "oyrc" + s[4:], s[:31] + "\x01", s[4:] + "cryo", "cryo" + zeros(28), "cryo\x80" + s[5:], s[:8] + "\x80" + s[9:]} {
		list = append(list, mustPair(t, other))
	}
	return list
}

// P5.1: bytes that are written out by hand.
func TestBytesByHand(t *testing.T) {
	for _, c := range []struct {
		h api.Head
		s string
	}{
		{api.Head{Number: 0, Start: 1}, "cryo\x00\x00\x00\x00\x00\x00\x00\x01" + zeros(20)},
		{api.Head{Number: 1, Start: 201}, "cryo\x00\x00\x00\x01\x00\x00\x00\xc9" + zeros(20)},
		{api.Head{Number: 16909060, Start: 84281096}, "cryo\x01\x02\x03\x04\x05\x06\x07\x08" + zeros(20)},
		{api.Head{Number: 255, Start: 256}, "cryo\x00\x00\x00\xff\x00\x00\x01\x00" + zeros(20)},
		{api.Head{Number: 65536, Start: 65535}, "cryo\x00\x01\x00\x00\x00\x00\xff\xff" + zeros(20)},
		{api.Head{Number: 16777216, Start: 16777215}, "cryo\x01\x00\x00\x00\x00\xff\xff\xff" + zeros(20)},
		{api.Head{Number: 2147483647, Start: 1}, "cryo\x7f\xff\xff\xff\x00\x00\x00\x01" + zeros(20)},
		{api.Head{Number: 0, Start: 2147483647}, "cryo\x00\x00\x00\x00\x7f\xff\xff\xff" + zeros(20)},
		{api.Head{Number: 2147483647, Start: 2147483647}, "cryo\x7f\xff\xff\xff\x7f\xff\xff\xff" + zeros(20)},
		{api.Head{Number: 1668446575, Start: 1668446575}, "cryocryocryo" + zeros(20)},
	} {
		if len(c.s) != 32 {
			t.Fatalf("%q: not Half bytes", c.s)
		}
		stands(t, c.h, c.s)
	}
}

// P5.1: numbers of one to four bytes, of each with each.
func TestManyHeads(t *testing.T) {
	var numbers []int
	for n := range 300 {
		numbers = append(numbers, n)
	}
	for n := 300; n <= 2147483647; n = n*3 + 1 {
		numbers = append(numbers, n)
	}
	for _, n := range numbers {
		for _, start := range numbers[1:] {
			stands(t, api.Head{Number: n, Start: start}, "cryo"+reckoned(n)+reckoned(start)+zeros(20))
		}
	}
}

// P5.1: each limit, one less and one more, beside each other number's limits.
func TestLimits(t *testing.T) {
	for _, n := range []int{0, 1, 2147483646, 2147483647} {
		for _, start := range []int{1, 2, 2147483646, 2147483647} {
			stands(t, api.Head{Number: n, Start: start}, "cryo"+reckoned(n)+reckoned(start)+zeros(20))
		}
	}
	beyond := []int{-1, -2, -256, -2147483647, -2147483648, math.MinInt, 2147483648, 2147483649, 1 << 32, 1<<32 + 1, 1<<32 + 7, math.MaxInt}
	for _, n := range beyond {
		for _, fine := range []int{1, 7, 2147483647} {
			mayNot(t, api.Head{Number: n, Start: fine})
			mayNot(t, api.Head{Number: fine, Start: n})
		}
		mayNot(t, api.Head{Number: 0, Start: n})
		mayNot(t, api.Head{Number: n, Start: 0})
		mayNot(t, api.Head{Number: n, Start: n})
	}
	for _, n := range []int{0, 1, 2147483647} {
		mayNot(t, api.Head{Number: n, Start: 0})
	}
}

// told reckons by the chapter's words which head, if any, these Half bytes are of.
func told(s string) (api.Head, bool) {
	number := int(s[4])*16777216 + int(s[5])*65536 + int(s[6])*256 + int(s[7])
	start := int(s[8])*16777216 + int(s[9])*65536 + int(s[10])*256 + int(s[11])
	if s[:4] != "cryo" || number > 2147483647 || start < 1 || start > 2147483647 || s[12:] != zeros(20) {
		return api.Head{}, false
	}
	return api.Head{Number: number, Start: start}, true
}

// P5.1: any one byte of a head's bytes turned: Get tells what Put tells that of, or refuses it.
func TestGetOfAnyOtherByte(t *testing.T) {
	for _, h := range []api.Head{
		{Number: 0, Start: 1},
		{Number: 1, Start: 256},
		{Number: 7, Start: 16777216},
		{Number: 16909060, Start: 84281096},
		{Number: 2147483647, Start: 2147483647},
	} {
		s, e := Put(h)
		if e != api.OK || len(s) != 32 {
			t.Fatalf("Put(%+v): %q, error %d", h, s, e)
		}
		for i := range s {
			for v := range 256 {
				turned := with(s, i, byte(v))
				if want, ok := told(turned); ok {
					stands(t, want, turned)
				} else {
					refused(t, turned)
				}
			}
		}
	}
}

// P5.1: Get refuses what has not just Half bytes, though its first ones, or last ones, are a head's.
func TestGetRefusesOtherLengths(t *testing.T) {
	for _, h := range []api.Head{{Number: 0, Start: 1}, {Number: 5, Start: 1 << 24}, {Number: 2147483647, Start: 2147483647}} {
		s, e := Put(h)
		if e != api.OK || len(s) != 32 {
			t.Fatalf("Put(%+v): %q, error %d", h, s, e)
		}
		for n := range len(s) {
			refused(t, s[:n])
			refused(t, s[len(s)-n:])
		}
		for _, more := range []string{"\x00", "x", "cryo", zeros(32), s} {
			refused(t, s+more)
			refused(t, more+s)
		}
	}
}

// P5.1: Get refuses bytes that no head tells.
func TestGetRefusesWhatPutNeverTells(t *testing.T) {
	for _, s := range []string{
		zeros(32),
		strings.Repeat("\xff", 32),
		"cryo" + zeros(28),
		"cryo\x00\x00\x00\x05\x00\x00\x00\x00" + zeros(20),
		"cryo\x80\x00\x00\x00\x00\x00\x00\x01" + zeros(20),
		"cryo\xff\xff\xff\xff\x00\x00\x00\x01" + zeros(20),
		"cryo\x00\x00\x00\x01\x80\x00\x00\x00" + zeros(20),
		"cryo\x00\x00\x00\x01\xff\xff\xff\xff" + zeros(20),
		"cryo\x00\x00\x00\x01\x80\x00\x00\x01" + zeros(20),
		"CRYO\x00\x00\x00\x01\x00\x00\x00\x01" + zeros(20),
		"cry\x00\x00\x00\x00\x01\x00\x00\x00\x01" + zeros(20),
		"\x00\x00\x00\x00\x00\x00\x00\x01\x00\x00\x00\x01" + zeros(20),
		"\x00\x00\x00\x01\x00\x00\x00\x01" + zeros(20) + "cryo",
		"\x00cryo\x00\x00\x00\x01\x00\x00\x00\x01" + zeros(19),
		"cryo\x00\x00\x00\x01\x00\x00\x00\x01" + zeros(19) + "\x01",
		"cryo\x00\x00\x00\x01\x00\x00\x00\x01" + "\x01" + zeros(19),
		"cryo\x00\x00\x00\x01\x00\x00\x00\x01" + zeros(10) + "x" + zeros(9),
		"cryo\x00\x00\x00\x01\x00\x00\x00\x01" + strings.Repeat(" ", 20),
	} {
		if len(s) != 32 {
			t.Fatalf("%q: not Half bytes", s)
		}
		refused(t, s)
	}
}

// P5.2: of two heads the one of the greater Number, in either place, whatever their Starts are.
func TestBestOfTwo(t *testing.T) {
	numbers := []int{0, 1, 2, 127, 128, 255, 256, 65535, 65536, 16777215, 16777216, 2147483646, 2147483647}
	for i, low := range numbers {
		for _, high := range numbers[i+1:] {
			for _, starts := range [][2]int{{1, 1}, {1, 2}, {2, 1}, {1, 2147483647}, {2147483647, 1}, {255, 256}, {256, 255}} {
				lesser := api.Head{Number: low, Start: starts[0]}
				greater := api.Head{Number: high, Start: starts[1]}
				a, b := sector(t, lesser), sector(t, greater)
				best(t, a, b, greater)
				best(t, b, a, greater)
			}
		}
	}
}

// P5.2: of two heads of the same Number the first one, whichever has the greater Start.
func TestBestOfTheSameNumber(t *testing.T) {
	starts := []int{1, 2, 255, 256, 2147483646, 2147483647}
	for _, n := range []int{0, 1, 256, 2147483646, 2147483647} {
		for _, start := range starts {
			for _, other := range starts {
				one, two := api.Head{Number: n, Start: start}, api.Head{Number: n, Start: other}
				best(t, sector(t, one), sector(t, two), one)
			}
		}
	}
}

// P5.2: one sector without a head, in either place: the other one's head, whatever its Number is.
func TestBestOfOne(t *testing.T) {
	for _, h := range []api.Head{{Number: 0, Start: 1}, {Number: 0, Start: 2147483647}, {Number: 3, Start: 9}, {Number: 2147483647, Start: 2}} {
		x := sector(t, h)
		for _, without := range headless(t, api.Head{Number: 5, Start: 1 << 24}) {
			best(t, x, without, h)
			best(t, without, x, h)
		}
	}
}

// P5.2: no head in either sector.
func TestBestOfNone(t *testing.T) {
	list := headless(t, api.Head{Number: 5, Start: 1 << 24})
	for _, a := range list {
		for _, b := range list {
			none(t, a, b)
		}
	}
}

// P5.2: any one byte of the greater head's sector turned: layer 1 refuses that sector, so the other one's head it is.
func TestBestOfAnyOtherByte(t *testing.T) {
	lesser := api.Head{Number: 6, Start: 5}
	x, y := sector(t, lesser), sector(t, api.Head{Number: 7, Start: 1 << 16})
	for i := range y {
		for v := range 256 {
			turned := with(y, i, byte(v))
			if turned == y {
				continue
			}
			best(t, x, turned, lesser)
			best(t, turned, x, lesser)
			none(t, turned, turned)
		}
	}
}

// P5.2: a sector whose Half bytes are any head's with one byte turned, whole by layer 1: its head, if Get tells one.
func TestBestOfTurnedHalves(t *testing.T) {
	other := api.Head{Number: 300, Start: 5}
	x := sector(t, other)
	s, _ := Put(api.Head{Number: 300, Start: 1 << 16})
	for i := range s {
		for v := range 256 {
			turned := with(s, i, byte(v))
			y := mustPair(t, turned)
			h, ok := told(turned)
			switch {
			case !ok:
				best(t, x, y, other)
				best(t, y, x, other)
				none(t, y, y)
			case h.Number > 300:
				best(t, x, y, h)
				best(t, y, x, h)
			case h.Number == 300:
				best(t, x, y, other)
				best(t, y, x, h)
			default:
				best(t, x, y, other)
				best(t, y, x, other)
			}
		}
	}
}

// P5.2: a sector that was torn between two heads, at each place: one of the two, or the one in the other sector.
func TestBestOfTorn(t *testing.T) {
	h0, h1, h2 := api.Head{Number: 6, Start: 5}, api.Head{Number: 7, Start: 205}, api.Head{Number: 8, Start: 70000}
	x, old, fresh := sector(t, h1), sector(t, h0), sector(t, h2)
	for at := range 65 {
		torn, e := pair.Torn(old, fresh, at)
		if e != api.OK {
			t.Fatalf("pair.Torn at %d: error %d", at, e)
		}
		want := h1
		if torn == fresh {
			want = h2
		}
		best(t, torn, x, want)
		best(t, x, torn, want)
	}
}

// R4: no answer lies in an argument's memory, nor in another answer's.
func TestAnswersShareNoMemory(t *testing.T) {
	h := api.Head{Number: 3, Start: 9}
	first, _ := Put(h)
	second, _ := Put(h)
	if first == "" || first != second {
		t.Fatalf("Put(%+v): %q, then %q", h, first, second)
	}
	if overlap(first, second) {
		t.Errorf("Put(%+v): two answers lie in one memory", h)
	}
}

// overlap asks whether two texts, neither empty, have a byte of memory in common.
func overlap(a string, b string) bool {
	x := uintptr(unsafe.Pointer(unsafe.StringData(a)))
	y := uintptr(unsafe.Pointer(unsafe.StringData(b)))
	return x < y+uintptr(len(b)) && y < x+uintptr(len(a))
}

// R4, R5: the same arguments, the same answers, whatever was asked in between, also from several goroutines at one time.
func TestAnswersHangOnArgumentsAlone(t *testing.T) {
	h, s := api.Head{Number: 3, Start: 9}, "cryo\x00\x00\x00\x03\x00\x00\x00\x09"+zeros(20)
	x, y := sector(t, h), sector(t, api.Head{Number: 4, Start: 1})
	none(t, "", s)
	stands(t, h, s)
	best(t, x, "", h)
	best(t, y, x, api.Head{Number: 4, Start: 1})
	mayNot(t, api.Head{Number: 3})
	refused(t, s+"x")
	none(t, "", s)
	stands(t, h, s)
	best(t, "", x, h)
	done := make(chan bool)
	for range 8 {
		go func() {
			text, e := Put(h)
			got, f := Get(s)
			b, g := Best(x, zeros(64))
			done <- May(h) && text == s && got == h && b == h && e == api.OK && f == api.OK && g == api.OK
		}()
	}
	for range 8 {
		if !<-done {
			t.Errorf("another answer at one time with others")
		}
	}
}
