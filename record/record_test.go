package record

import (
	"math"
	"strings"
	"testing"
	"unsafe"

	"cryostat/api"
)

// text tells n bytes, none of them 0, that rise from first on.
func text(n int, first byte) string {
	b := make([]byte, n)
	for i := range b {
		b[i] = first + byte(i)
	}
	return string(b)
}

// zeros tells n bytes 0.
func zeros(n int) string {
	return strings.Repeat("\x00", n)
}

// with tells s with v at place i.
func with(s string, i int, v byte) string {
	b := []byte(s)
	b[i] = v
	return string(b)
}

// stands asks that r may be, and that s is what Put tells of it, and it what Get tells of s.
func stands(t *testing.T, r api.Record, s string) {
	t.Helper()
	if !May(r) {
		t.Errorf("May(%+v): it may be", r)
	}
	if got, e := Put(r); got != s || e != api.OK {
		t.Errorf("Put(%+v): %q, error %d, not %q", r, got, e, s)
	}
	if got, e := Get(s); got != r || e != api.OK {
		t.Errorf("Get(%q): %+v, error %d, not %+v", s, got, e, r)
	}
}

// mayNot asks that r may not be, and that Put refuses it, and tells nothing beside (R2).
func mayNot(t *testing.T, r api.Record) {
	t.Helper()
	if May(r) {
		t.Errorf("May(%+v): it may not be", r)
	}
	if got, e := Put(r); got != "" || e != api.ErrRecordForm {
		t.Errorf("Put(%+v): %q, error %d, not an empty text and ErrRecordForm", r, got, e)
	}
}

// refused asks that Get refuses s, and tells nothing beside (R2).
func refused(t *testing.T, s string) {
	t.Helper()
	if got, e := Get(s); got != (api.Record{}) || e != api.ErrRecordForm {
		t.Errorf("Get(%q): %+v, error %d, not nothing and ErrRecordForm", s, got, e)
	}
}

// P3.1: bytes that are written out by hand.
func TestBytesByHand(t *testing.T) {
	for _, c := range []struct {
		r api.Record
		s string
	}{
		{api.Record{Seq: 1}, "\x00\x00\x00\x01\x00\x00\x00\x00" + zeros(24)},
		{api.Record{Seq: 16909060, Page: 7, Part: 2, Data: "hello"}, "\x01\x02\x03\x04\x07\x02\x05\x00hello" + zeros(19)},
		{api.Record{Seq: 256, Page: 47, Part: 3, Data: text(24, 'a')}, "\x00\x00\x01\x00\x2f\x03\x18\x00abcdefghijklmnopqrstuvwx"},
		{api.Record{Seq: 65535, Page: 1, Data: text(23, 'A')}, "\x00\x00\xff\xff\x01\x00\x17\x00ABCDEFGHIJKLMNOPQRSTUVW\x00"},
		{api.Record{Seq: 9, Part: 1, Data: "\x00\xff\x00"}, "\x00\x00\x00\x09\x00\x01\x03\x00\x00\xff\x00" + zeros(21)},
		{api.Record{Seq: 9, Part: 1, Data: zeros(24)}, "\x00\x00\x00\x09\x00\x01\x18\x00" + zeros(24)},
		{api.Record{Seq: 2147483647, Part: 4}, "\x7f\xff\xff\xff\x00\x04\x00\x00" + zeros(24)},
		{api.Record{Seq: 16777216, Part: 4}, "\x01\x00\x00\x00\x00\x04\x00\x00" + zeros(24)},
	} {
		stands(t, c.r, c.s)
	}
}

// P3.1: each page, part and length of Data together, at numbers of one to four bytes.
func TestEachPagePartAndLength(t *testing.T) {
	for page := range 48 {
		for part := range 4 {
			for n := range 25 {
				for _, seq := range []string{"\x00\x00\x00\x01", "\x00\x00\x01\x00", "\x00\xff\x00\xff", "\x7f\xff\xff\xff"} {
					data := text(n, byte(1+page))
					value := int(seq[0])<<24 + int(seq[1])<<16 + int(seq[2])<<8 + int(seq[3])
					s := seq + string([]byte{byte(page), byte(part), byte(n), 0}) + data + zeros(24-n)
					stands(t, api.Record{Seq: value, Page: page, Part: part, Data: data}, s)
				}
			}
		}
	}
}

// P3.1: Data may hold any byte at any place.
func TestAnyByteOfData(t *testing.T) {
	base := text(24, 'a')
	for i := range base {
		for v := range 256 {
			data := with(base, i, byte(v))
			stands(t, api.Record{Seq: 5, Page: 6, Part: 1, Data: data}, "\x00\x00\x00\x05\x06\x01\x18\x00"+data)
		}
	}
}

// P3.1: each limit, one less and one more, and numbers far beyond, also where their last bytes are those of one that may be.
func TestLimits(t *testing.T) {
	base := api.Record{Seq: 77, Page: 5, Part: 2, Data: "data"}
	for _, c := range []struct {
		turn      func(r *api.Record, n int)
		low, high int
	}{
		{func(r *api.Record, n int) { r.Seq = n }, 1, 2147483647},
		{func(r *api.Record, n int) { r.Page = n }, 0, 47},
		{func(r *api.Record, n int) { r.Part = n }, 0, 3},
	} {
		for _, n := range []int{c.low, c.low + 1, c.high - 1, c.high} {
			r := base
			c.turn(&r, n)
			s, e := Put(r)
			if e != api.OK {
				t.Errorf("Put(%+v): error %d", r, e)
			}
			stands(t, r, s)
		}
		for _, n := range []int{c.low - 1, c.low - 256, -c.high - 5, math.MinInt, math.MaxInt, 1<<32 + c.low + 1} {
			r := base
			c.turn(&r, n)
			mayNot(t, r)
		}
	}
	for _, r := range []api.Record{
		{},
		{Seq: 2147483648, Page: 5, Part: 2},
		{Seq: 77, Page: 48, Part: 2},
		{Seq: 77, Page: 256 + 5, Part: 2},
		{Seq: 77, Part: 5},
		{Seq: 77, Part: 256 + 2},
		{Seq: 77, Page: 5, Part: 2, Data: text(25, 1)},
		{Seq: 77, Page: 5, Part: 2, Data: text(256+4, 1)},
		{Seq: 77, Page: 5, Part: 2, Data: zeros(25)},
	} {
		mayNot(t, r)
	}
}

// P3.1: of a commit, Page 0 and no Data, at each number that may be.
func TestCommits(t *testing.T) {
	for _, seq := range []int{1, 2, 2147483646, 2147483647} {
		s, _ := Put(api.Record{Seq: seq, Part: 4})
		stands(t, api.Record{Seq: seq, Part: 4}, s)
	}
	for _, r := range []api.Record{
		{Seq: 0, Part: 4},
		{Seq: 2147483648, Part: 4},
		{Seq: 1, Part: 4, Page: 1},
		{Seq: 1, Part: 4, Page: 47},
		{Seq: 1, Part: 4, Page: -1},
		{Seq: 1, Part: 4, Data: "x"},
		{Seq: 1, Part: 4, Data: "\x00"},
		{Seq: 1, Part: 4, Data: text(24, 1)},
		{Seq: 1, Part: 4, Page: 1, Data: "x"},
	} {
		mayNot(t, r)
	}
}

// told reckons by the chapter's words which record, if any, these Half bytes are of.
func told(s string) (api.Record, bool) {
	seq := int(s[0])<<24 + int(s[1])<<16 + int(s[2])<<8 + int(s[3])
	page, part, n := int(s[4]), int(s[5]), int(s[6])
	if seq < 1 || seq > 2147483647 || page > 47 || part > 4 || n > 24 || s[7] != 0 {
		return api.Record{}, false
	}
	if s[8+n:] != zeros(24-n) || part == 4 && (page != 0 || n != 0) {
		return api.Record{}, false
	}
	return api.Record{Seq: seq, Page: page, Part: part, Data: s[8 : 8+n]}, true
}

// P3.1: any one byte of a record's bytes turned: Get tells what Put tells that of, or refuses it.
func TestGetOfAnyOtherByte(t *testing.T) {
	for _, r := range []api.Record{
		{Seq: 1},
		{Seq: 1, Part: 4},
		{Seq: 256, Part: 4},
		{Seq: 16909060, Page: 7, Part: 2, Data: "hello"},
		{Seq: 16909060, Page: 7, Part: 2, Data: "hello\x00\x00"},
		{Seq: 2147483647, Page: 47, Part: 3, Data: text(24, 'a')},
		{Seq: 3, Part: 1, Data: zeros(24)},
	} {
		s, e := Put(r)
		if e != api.OK || len(s) != 32 {
			t.Fatalf("Put(%+v): %q, error %d", r, s, e)
		}
		for i := range s {
			for v := range 256 {
				turned := with(s, i, byte(v))
				if want, ok := told(turned); ok {
					stands(t, want, turned)
				} else {
					refused(t, turned)
				}
			}
		}
	}
}

// P3.1: Get refuses what has not just Half bytes, though its first ones, or last ones, are a record's.
func TestGetRefusesOtherLengths(t *testing.T) {
	for _, r := range []api.Record{{Seq: 1}, {Seq: 1, Part: 4}, {Seq: 9, Page: 3, Part: 1, Data: text(24, 'a')}} {
		s, _ := Put(r)
		if len(s) != 32 {
			t.Fatalf("Put(%+v): %q", r, s)
		}
		for n := range len(s) {
			refused(t, s[:n])
			refused(t, s[len(s)-n:])
		}
		for _, more := range []string{"\x00", "x", zeros(32), s} {
			refused(t, s+more)
			refused(t, more+s)
		}
	}
}

// P3.1: Get refuses bytes that no record tells.
func TestGetRefusesWhatPutNeverTells(t *testing.T) {
	for _, s := range []string{
		zeros(32),
		strings.Repeat("\xff", 32),
		zeros(8) + text(24, 'a'),
		"\x80\x00\x00\x00" + zeros(28),
		"\x00\x00\x00\x01\x30\x00\x00\x00" + zeros(24),
		"\x00\x00\x00\x01\x00\x05\x00\x00" + zeros(24),
		"\x00\x00\x00\x01\x00\x00\x19\x00" + text(24, 'a'),
		"\x00\x00\x00\x01\x00\x00\xff\x00" + text(24, 'a'),
		"\x00\x00\x00\x01\x00\x00\x00\x01" + zeros(24),
		"\x00\x00\x00\x01\x00\x00\x00\x00" + zeros(23) + "x",
		"\x00\x00\x00\x01\x00\x00\x17\x00" + text(24, 'a'),
		"\x00\x00\x00\x01\x01\x04\x00\x00" + zeros(24),
		"\x00\x00\x00\x01\x00\x04\x01\x00" + zeros(24),
		"\x00\x00\x00\x01\x00\x04\x01\x00x" + zeros(23),
		"\x00\x00\x00\x01\x00\x04\x00\x00x" + zeros(23),
	} {
		if len(s) != 32 {
			t.Fatalf("%q: not Half bytes", s)
		}
		refused(t, s)
	}
}

// R4: no answer lies in an argument's memory.
func TestAnswersShareNoMemory(t *testing.T) {
	for _, n := range []int{1, 5, 24} {
		r := api.Record{Seq: 3, Page: 2, Part: 1, Data: text(n, 'a')}
		s, _ := Put(r)
		got, _ := Get(s)
		if s == "" || got.Data != r.Data {
			t.Fatalf("Put(%+v): %q; Get of that: %+v", r, s, got)
		}
		if overlap(s, r.Data) {
			t.Errorf("Put(%+v): the answer lies in the argument's memory", r)
		}
		if overlap(got.Data, s) {
			t.Errorf("Get(%q): the answer lies in the argument's memory", s)
		}
	}
}

// overlap asks whether two texts, neither empty, have a byte of memory in common.
func overlap(a string, b string) bool {
	x := uintptr(unsafe.Pointer(unsafe.StringData(a)))
	y := uintptr(unsafe.Pointer(unsafe.StringData(b)))
	return x < y+uintptr(len(b)) && y < x+uintptr(len(a))
}

// R5: the same argument, the same answer, whatever was asked in between.
func TestAnswersHangOnArgumentsAlone(t *testing.T) {
	r := api.Record{Seq: 3, Page: 2, Part: 1, Data: "abc"}
	s, _ := Put(r)
	stands(t, r, s)
	mayNot(t, api.Record{Seq: 3, Page: 48})
	refused(t, s+"x")
	_, _ = Put(api.Record{Seq: 9, Part: 4})
	stands(t, r, s)
}
