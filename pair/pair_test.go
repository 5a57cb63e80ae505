package pair

import (
	"math"
	"strconv"
	"strings"
	"testing"
	"unsafe"

	"cryostat/api"
)

// row tells n bytes, each step more than the one ahead, from first on.
func row(n int, first byte, step byte) string {
	b := make([]byte, n)
	for i := range b {
		b[i] = first + byte(i)*step
	}
	return string(b)
}

// with tells s with v at place i.
func with(s string, i int, v byte) string {
	b := []byte(s)
	b[i] = v
	return string(b)
}

// mustPut tells Put's sector of a text that has one.
func mustPut(t *testing.T, s string) string {
	t.Helper()
	x, e := Put(s)
	if e != api.OK {
		t.Fatalf("Put(%q): error %d", s, e)
	}
	return x
}

// refused asks that a call answered ErrPairForm, and nothing beside it (R2).
func refused(t *testing.T, what string, got string, e api.Errno) {
	t.Helper()
	if got != "" || e != api.ErrPairForm {
		t.Errorf("%s: %q, error %d, not an empty text and ErrPairForm", what, got, e)
	}
}

// P1.1: a sector written out by hand.
func TestPutTellsTextAndComplement(t *testing.T) {
	s := "\x00\x01\x02\x7f\x80\xfe\xff\x0a" + "abcdefgh" + "ABCDEFGH" + "\x55\xaa\x0f\xf0\x10\x20\x40\x33"
	want := s +
		"\xff\xfe\xfd\x80\x7f\x01\x00\xf5" +
		"\x9e\x9d\x9c\x9b\x9a\x99\x98\x97" +
		"\xbe\xbd\xbc\xbb\xba\xb9\xb8\xb7" +
		"\xaa\x55\xf0\x0f\xef\xdf\xbf\xcc"
	if got, e := Put(s); got != want || e != api.OK {
		t.Errorf("Put(%q): %q, error %d, not %q", s, got, e, want)
	}
	if got, e := Get(want); got != s || e != api.OK {
		t.Errorf("Get(%q): %q, error %d, not %q", want, got, e, s)
	}
}

// P1.1: any byte value at any place.
func TestPutAndGetTakeAnyByteAnywhere(t *testing.T) {
	base := row(api.Half, 7, 11)
	for i := range api.Half {
		for v := range 256 {
			s := with(base, i, byte(v))
			x, e := Put(s)
			if e != api.OK || len(x) != api.Sector || x[:api.Half] != s {
				t.Fatalf("Put(%q): %q, error %d", s, x, e)
			}
			for k := range api.Half {
				if int(x[k])+int(x[api.Half+k]) != 255 {
					t.Fatalf("Put(%q): byte %d of %q is no complement", s, api.Half+k, x)
				}
			}
			if got, e := Get(x); got != s || e != api.OK {
				t.Fatalf("Get(%q): %q, error %d, not %q", x, got, e, s)
			}
		}
	}
}

// P1.1: Put refuses what has not just Half bytes.
func TestPutRefusesOtherLengths(t *testing.T) {
	for n := range 3 * api.Sector {
		s := row(n, 3, 5)
		if n == api.Half {
			mustPut(t, s)
			continue
		}
		got, e := Put(s)
		refused(t, "Put of "+strconv.Quote(s), got, e)
	}
}

// P1.1: Get refuses what has not just Sector bytes, also where its two halves are complements.
func TestGetRefusesOtherLengths(t *testing.T) {
	x := mustPut(t, row(api.Half, 9, 13))
	for n := range api.Sector {
		got, e := Get(x[:n])
		refused(t, "Get of a sector's first bytes", got, e)
		got, e = Get(x[api.Sector-n:])
		refused(t, "Get of a sector's last bytes", got, e)
	}
	for _, more := range []string{"\x00", "x", "\xff", x[:api.Half], x} {
		got, e := Get(x + more)
		refused(t, "Get of more than a sector", got, e)
		got, e = Get(more + x)
		refused(t, "Get of a sector behind something", got, e)
	}
	for _, half := range []int{1, api.Half - 1, api.Half + 1, api.Sector} {
		got, e := Get(strings.Repeat("\x0f", half) + strings.Repeat("\xf0", half))
		refused(t, "Get of halves of another length", got, e)
	}
}

// P1.1: Get refuses a sector of which any one byte is another one.
func TestGetRefusesAnyOtherByte(t *testing.T) {
	x := mustPut(t, row(api.Half, 200, 37))
	for i := range api.Sector {
		for v := range 256 {
			s := with(x, i, byte(v))
			got, e := Get(s)
			if s == x {
				if got != x[:api.Half] || e != api.OK {
					t.Fatalf("Get(%q): %q, error %d", s, got, e)
				}
				continue
			}
			refused(t, "Get of a sector with another byte", got, e)
		}
	}
}

// P1.1: Get refuses sectors whose halves are the same, or in another row.
func TestGetRefusesWhatPutNeverTells(t *testing.T) {
	x := mustPut(t, row(api.Half, 1, 1))
	back := []byte(x)
	for i := range api.Half {
		back[api.Half+i] = x[api.Sector-1-i]
	}
	for _, s := range []string{
		strings.Repeat("\x00", api.Sector),
		strings.Repeat("\xff", api.Sector),
		x[:api.Half] + x[:api.Half],
		x[api.Half:] + x[api.Half:],
		string(back),
	} {
		got, e := Get(s)
		refused(t, "Get of "+strconv.Quote(s), got, e)
	}
	swapped := x[api.Half:] + x[:api.Half]
	if got, e := Get(swapped); got != x[api.Half:] || e != api.OK {
		t.Errorf("Get(%q): %q, error %d: Put tells that of %q", swapped, got, e, x[api.Half:])
	}
}

// P1.2: new's first at bytes, then old's, whatever the two sectors are.
func TestTornAtEachPlace(t *testing.T) {
	old, fresh := row(api.Sector, 0, 1), row(api.Sector, 128, 1)
	for at := 0; at <= api.Sector; at++ {
		got, e := Torn(old, fresh, at)
		if e != api.OK || len(got) != api.Sector {
			t.Fatalf("Torn at %d: %q, error %d", at, got, e)
		}
		for i := range api.Sector {
			want := old[i]
			if i < at {
				want = fresh[i]
			}
			if got[i] != want {
				t.Errorf("Torn at %d: byte %d is %d, not %d", at, i, got[i], want)
			}
		}
	}
	if got, e := Torn(old, fresh, 0); got != old || e != api.OK {
		t.Errorf("Torn at 0: %q, error %d, not the old one", got, e)
	}
	if got, e := Torn(old, fresh, api.Sector); got != fresh || e != api.OK {
		t.Errorf("Torn at Sector: %q, error %d, not the new one", got, e)
	}
}

// P1.2: Torn refuses places beyond 0 and Sector.
func TestTornRefusesOtherPlaces(t *testing.T) {
	old, fresh := row(api.Sector, 0, 1), row(api.Sector, 128, 1)
	for _, at := range []int{-1, api.Sector + 1, -api.Sector, 2 * api.Sector, math.MinInt, math.MaxInt} {
		got, e := Torn(old, fresh, at)
		refused(t, "Torn at a place beyond", got, e)
	}
}

// P1.2: Torn refuses an old or a new one that has not just Sector bytes, wherever it is torn.
func TestTornRefusesOtherLengths(t *testing.T) {
	whole := row(api.Sector, 0, 1)
	for _, n := range []int{0, 1, api.Half, api.Sector - 1, api.Sector + 1, 2 * api.Sector} {
		other := row(n, 128, 1)
		for _, at := range []int{-1, 0, 1, n, api.Half, api.Sector, api.Sector + 1} {
			got, e := Torn(other, whole, at)
			refused(t, "Torn of an old one of another length", got, e)
			got, e = Torn(whole, other, at)
			refused(t, "Torn of a new one of another length", got, e)
			got, e = Torn(other, other, at)
			refused(t, "Torn of two of another length", got, e)
		}
	}
}

// P1.3: two that are alike at the first bytes, at the last ones, or but for one bit, torn at each place.
func TestTornPairsAreOneOfThemOrRefused(t *testing.T) {
	a, b := row(api.Half, 17, 29), row(api.Half, 18, 31)
	others := []string{a, b, strings.Repeat("\x00", api.Half), strings.Repeat("\xff", api.Half)}
	for n := range api.Half + 1 {
		others = append(others, a[:n]+b[n:], b[:n]+a[n:])
	}
	for i := range api.Half {
		for bit := range 8 {
			others = append(others, with(a, i, a[i]^1<<bit))
		}
	}
	x := mustPut(t, a)
	for _, other := range others {
		y := mustPut(t, other)
		for at := 0; at <= api.Sector; at++ {
			tornIsOneOrRefused(t, x, y, at)
			tornIsOneOrRefused(t, y, x, at)
		}
	}
}

// tornIsOneOrRefused asks what P1.3 promises of two sectors that Put told.
func tornIsOneOrRefused(t *testing.T, old string, fresh string, at int) {
	t.Helper()
	z, e := Torn(old, fresh, at)
	if e != api.OK {
		t.Fatalf("Torn(%q, %q, %d): error %d", old, fresh, at, e)
	}
	got, e := Get(z)
	if z != old && z != fresh {
		refused(t, "Get of a torn sector", got, e)
		return
	}
	if got != z[:api.Half] || e != api.OK {
		t.Errorf("Get(%q): %q, error %d", z, got, e)
	}
}

// R4: no answer lies in an argument's memory, also where it is the argument's bytes.
func TestAnswersShareNoMemory(t *testing.T) {
	s := row(api.Half, 1, 3)
	x := mustPut(t, s)
	y := mustPut(t, row(api.Half, 2, 3))
	got, _ := Get(x)
	old, _ := Torn(x, y, 0)
	fresh, _ := Torn(x, y, api.Sector)
	for _, c := range []struct {
		what, answer, argument string
	}{{"Put", x, s}, {"Get", got, x}, {"Torn at 0", old, x}, {"Torn at Sector", fresh, y}} {
		if overlap(c.answer, c.argument) {
			t.Errorf("%s: the answer lies in the argument's memory", c.what)
		}
	}
}

// overlap asks whether two texts, neither empty, have a byte of memory in common.
func overlap(a string, b string) bool {
	x := uintptr(unsafe.Pointer(unsafe.StringData(a)))
	y := uintptr(unsafe.Pointer(unsafe.StringData(b)))
	return x < y+uintptr(len(b)) && y < x+uintptr(len(a))
}
