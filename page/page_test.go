package page

import (
	"math"
	"slices"
	"strings"
	"testing"
	"unsafe"

	"cryostat/api"
)

// text tells n bytes that rise from first on.
func text(n int, first byte) string {
	b := make([]byte, n)
	for i := range b {
		b[i] = first + byte(i)
	}
	return string(b)
}

// with tells s with v at place i.
func with(s string, i int, v byte) string {
	b := []byte(s)
	b[i] = v
	return string(b)
}

// leaf tells a leaf of keys, each one's value behind it.
func leaf(entries ...string) api.Page {
	p := api.Page{Used: true, Leaf: true}
	for i, s := range entries {
		if i%2 == 0 {
			p.Keys = append(p.Keys, s)
		} else {
			p.Values = append(p.Values, s)
		}
	}
	return p
}

// other tells a page that is no leaf.
func other(keys []string, kids ...int) api.Page {
	return api.Page{Used: true, Keys: keys, Kids: kids}
}

// several tells pages that may be, leaves and others: of no keys, of few bytes, of most.
func several() []api.Page {
	return []api.Page{
		leaf(),
		leaf("a", ""),
		leaf("\x00", "\x00", "\x01", "\x02"),
		leaf("key", "value", "keys", "", "z", "0123456789"),
		leaf("sabc", "\x01\x02\x00", "sabcd", "\x02\x02\x03abc"),
		leaf(text(6, 1), text(10, 20), text(6, 2), text(10, 30), text(6, 3), text(10, 40), text(6, 250), text(10, 50)),
		other([]string{"a"}, 1, 2),
		other([]string{"a"}, 47, 1),
		other([]string{"\x01", "\x02"}, 3, 2, 1),
		other([]string{"k", "ke", "key"}, 9, 46, 47, 8),
		other([]string{text(6, 1), text(6, 2), text(6, 3), text(6, 250)}, 5, 4, 3, 2, 1),
	}
}

// same asks whether two pages tell the same; an empty list and nil are one.
func same(a api.Page, b api.Page) bool {
	return a.Used == b.Used && a.Leaf == b.Leaf &&
		slices.Equal(a.Keys, b.Keys) && slices.Equal(a.Values, b.Values) && slices.Equal(a.Kids, b.Kids)
}

// copied tells p in lists of its own.
func copied(p api.Page) api.Page {
	p.Keys, p.Values, p.Kids = slices.Clone(p.Keys), slices.Clone(p.Values), slices.Clone(p.Kids)
	return p
}

// reckoned tells by the chapter's words the text of a page that may be.
func reckoned(p api.Page) string {
	counted := func(s string) string { return string(append([]byte{byte(len(s))}, s...)) }
	s := "\x02"
	if p.Leaf {
		s = "\x01"
	}
	s += string([]byte{byte(len(p.Keys))})
	for i, key := range p.Keys {
		s += counted(key)
		if p.Leaf {
			s += counted(p.Values[i])
		}
	}
	for _, kid := range p.Kids {
		s += string([]byte{byte(kid)})
	}
	return s
}

// stands asks that p may be, and that s is what Put tells of it, and it what Get tells of s.
func stands(t *testing.T, p api.Page, s string) {
	t.Helper()
	if !May(p) {
		t.Errorf("May(%+v): it may be", p)
	}
	if got, e := Put(p); got != s || e != api.OK {
		t.Errorf("Put(%+v): %q, error %d, not %q", p, got, e, s)
	}
	if got, e := Get(s); !same(got, p) || e != api.OK {
		t.Errorf("Get(%q): %+v, error %d, not %+v", s, got, e, p)
	}
}

// mayNot asks that p may not be, and that Put refuses it, and tells nothing beside (R2).
func mayNot(t *testing.T, p api.Page) {
	t.Helper()
	if May(p) {
		t.Errorf("May(%+v): it may not be", p)
	}
	if got, e := Put(p); got != "" || e != api.ErrPageForm {
		t.Errorf("Put(%+v): %q, error %d, not an empty text and ErrPageForm", p, got, e)
	}
}

// either asks that p may be, or that it may not.
func either(t *testing.T, p api.Page, may bool) {
	t.Helper()
	if may {
		stands(t, p, reckoned(p))
	} else {
		mayNot(t, p)
	}
}

// refused asks that Get refuses s, and tells nothing beside (R2).
func refused(t *testing.T, s string) {
	t.Helper()
	if got, e := Get(s); !same(got, api.Page{}) || e != api.ErrPageForm {
		t.Errorf("Get(%q): %+v, error %d, not nothing and ErrPageForm", s, got, e)
	}
}

// front tells the text of at most `most` bytes that s begins with, behind its length in one, and what is behind it.
func front(s string, most int) (string, string, bool) {
	if s == "" || int(s[0]) > most || len(s) < 1+int(s[0]) {
		return "", "", false
	}
	return s[1 : 1+s[0]], s[1+s[0]:], true
}

// told reckons by the chapter's words which page, if any, s is of.
func told(s string) (api.Page, bool) {
	if len(s) < 2 || s[0] != 1 && s[0] != 2 || s[1] > 4 {
		return api.Page{}, false
	}
	p := api.Page{Used: true, Leaf: s[0] == 1}
	many, rest := int(s[1]), s[2:]
	for range many {
		key, behind, ok := front(rest, 6)
		if !ok || key == "" || len(p.Keys) > 0 && strings.Compare(p.Keys[len(p.Keys)-1], key) >= 0 {
			return api.Page{}, false
		}
		p.Keys, rest = append(p.Keys, key), behind
		if !p.Leaf {
			continue
		}
		value, behind, ok := front(rest, 10)
		if !ok {
			return api.Page{}, false
		}
		p.Values, rest = append(p.Values, value), behind
	}
	if p.Leaf {
		return p, rest == ""
	}
	count := make([]int, 256)
	for _, b := range []byte(rest) {
		count[b]++
		p.Kids = append(p.Kids, int(b))
	}
	return p, many > 0 && len(rest) == many+1 && slices.Max(count) == 1 && slices.Max(p.Kids) <= 47 && slices.Min(p.Kids) >= 1
}

// getsAsTold asks that Get tells of s what told does.
func getsAsTold(t *testing.T, s string) {
	t.Helper()
	if want, ok := told(s); ok {
		stands(t, want, s)
	} else {
		refused(t, s)
	}
}

// P6.1: bytes that are written out by hand.
func TestBytesByHand(t *testing.T) {
	for _, c := range []struct {
		p api.Page
		s string
	}{
		{api.Page{Used: true, Leaf: true}, "\x01\x00"},
		{api.Page{Used: true, Leaf: true, Keys: []string{}, Values: []string{}, Kids: []int{}}, "\x01\x00"},
		{api.Page{Used: true, Leaf: true, Keys: []string{"k"}, Values: []string{""}}, "\x01\x01\x01k\x00"},
		{api.Page{Used: true, Leaf: true, Keys: []string{"k"}, Values: []string{"v"}, Kids: []int{}}, "\x01\x01\x01k\x01v"},
		{api.Page{Used: true, Leaf: true, Keys: []string{"fa", "ib", "sabc"}, Values: []string{"\x03\x01", "\x01hello", "\x01\x02\x00"}},
			"\x01\x03\x02fa\x02\x03\x01\x02ib\x06\x01hello\x04sabc\x03\x01\x02\x00"},
		{api.Page{Used: true, Leaf: true, Keys: []string{"aaaaaa", "aaaaab", "b", "\xff\x00"}, Values: []string{"0123456789", "", "x", "\x00\xff"}},
			"\x01\x04\x06aaaaaa\x0a0123456789\x06aaaaab\x00\x01b\x01x\x02\xff\x00\x02\x00\xff"},
		{api.Page{Used: true, Keys: []string{"k"}, Kids: []int{1, 2}}, "\x02\x01\x01k\x01\x02"},
		{api.Page{Used: true, Keys: []string{"k"}, Kids: []int{47, 1}, Values: []string{}}, "\x02\x01\x01k\x2f\x01"},
		{api.Page{Used: true, Keys: []string{"aaaaaa", "b", "c\x00", "\x80"}, Kids: []int{3, 47, 10, 1, 32}},
			"\x02\x04\x06aaaaaa\x01b\x02c\x00\x01\x80\x03\x2f\x0a\x01\x20"},
	} {
		stands(t, c.p, c.s)
	}
}

// P6.1: each count of keys, of values and of kids together, of leaves and others, of used and not used ones: those may be that have as many as the chapter asks for, and no others.
func TestCounts(t *testing.T) {
	keys := []string{"a", "b", "c", "d", "e", "f"}
	kids := []int{1, 2, 3, 4, 5, 6, 7}
	for i := range 4 * 7 * 7 * 8 {
		used, leaf := i%2 == 0, i/2%2 == 0
		k, v, n := i/4%7, i/28%7, i/196
		p := api.Page{Used: used, Leaf: leaf, Keys: keys[:k], Values: keys[:v], Kids: kids[:n]}
		may := used && k <= 4 && (leaf && v == k && n == 0 || !leaf && k > 0 && v == 0 && n == k+1)
		either(t, p, may)
	}
	mayNot(t, api.Page{})
	mayNot(t, api.Page{Used: true})
	mayNot(t, api.Page{Leaf: true})
}

// P6.1: lists of very many items, of which no byte may count the keys.
func TestManyItems(t *testing.T) {
	for _, n := range []int{255, 256, 257, 260, 100000} {
		keys, kids := make([]string, n), make([]int, n+1)
		for i := range n {
			keys[i], kids[i] = string([]byte{byte(1 + i>>16), byte(i >> 8), byte(i)}), 1+i
		}
		kids[n] = 1 + n
		mayNot(t, api.Page{Used: true, Leaf: true, Keys: keys, Values: keys})
		mayNot(t, api.Page{Used: true, Keys: keys, Kids: kids})
		mayNot(t, api.Page{Used: true, Leaf: true, Keys: keys[:1], Values: keys})
		mayNot(t, api.Page{Used: true, Leaf: true, Keys: keys[:1], Values: keys[:1], Kids: kids})
		mayNot(t, api.Page{Used: true, Keys: keys[:1], Kids: kids})
		mayNot(t, api.Page{Used: true, Keys: keys[:1], Values: keys, Kids: kids[:2]})
	}
}

// P6.1: a key's length from 1 to MaxKey, one less and one more, at each place, of leaves and others.
func TestLengthsOfKeys(t *testing.T) {
	for many := 1; many <= 4; many++ {
		for place := range many {
			for _, n := range []int{0, 1, 2, 3, 4, 5, 6, 7, 8, 12, 255, 256, 257, 262, 100000} {
				keys := []string{"\x01", "\x02", "\x03", "\x04"}[:many]
				keys[place] = strings.Repeat(string([]byte{byte(1 + place)}), n)
				may := n >= 1 && n <= 6
				either(t, api.Page{Used: true, Leaf: true, Keys: keys, Values: make([]string, many)}, may)
				either(t, other(keys, []int{1, 2, 3, 4, 5}[:many+1]...), may)
			}
		}
	}
}

// P6.1: a value's length up to MaxValue, one less and one more, at each place.
func TestLengthsOfValues(t *testing.T) {
	for many := 1; many <= 4; many++ {
		for place := range many {
			for _, n := range []int{0, 1, 2, 3, 4, 5, 6, 7, 8, 9, 10, 11, 12, 20, 255, 256, 257, 266, 100000} {
				p := api.Page{Used: true, Leaf: true, Keys: []string{"a", "b", "c", "d"}[:many], Values: []string{"w", "x", "y", "z"}[:many]}
				p.Values[place] = text(n, 7)
				either(t, p, n <= 10)
			}
		}
	}
}

// P6.1: all lengths of two entries together, also where the bytes look like lengths.
func TestLengthsTogether(t *testing.T) {
	for k := range 6 {
		for v := range 11 {
			for l := range 6 {
				for w := range 11 {
					either(t, leaf(text(1+k, 1), text(v, 0), text(1+l, 2), text(w, 1)), true)
				}
			}
		}
	}
}

// P6.1: a kid's number from 1 below MaxPages, one less and one more, and numbers whose last byte is that of one that may be, at each place.
func TestNumbersOfKids(t *testing.T) {
	numbers := []int{math.MinInt, -1 << 32, -257, -255, -47, -2, -1, 256, 257, 261, 303, 1<<16 + 9, 1<<32 + 9, 1<<63 - 1}
	for n := range 60 {
		numbers = append(numbers, n)
	}
	for many := 1; many <= 4; many++ {
		for place := range many + 1 {
			for _, n := range numbers {
				kids := []int{41, 42, 43, 44, 45}[:many+1]
				may := n >= 1 && n <= 47 && (n == kids[place] || !slices.Contains(kids, n))
				kids[place] = n
				either(t, other([]string{"a", "b", "c", "d"}[:many], kids...), may)
			}
		}
	}
}

// P6.1: no kid twice, at whichever two places; but in any row.
func TestKidsAreUnlike(t *testing.T) {
	for many := 1; many <= 4; many++ {
		for a := range many + 1 {
			for b := range many + 1 {
				kids := []int{47, 1, 30, 2, 46}[:many+1]
				kids[a] = kids[b]
				either(t, other([]string{"a", "b", "c", "d"}[:many], kids...), a == b)
			}
		}
	}
	for i := range 4 * 4 * 4 {
		kids := []int{1 + i%4, 1 + i/4%4, 1 + i/16}
		may := kids[0] != kids[1] && kids[0] != kids[2] && kids[1] != kids[2]
		either(t, other([]string{"a", "b"}, kids...), may)
	}
}

// rising tells keys that rise as bytes: ones that begin with others, bytes 0 and 255, and such as stand elsewhere as signed bytes, or as runes.
func rising() []string {
	return []string{
		"\x00", "\x00\x00", "\x00\x01", "\x01", "\x01\x00", "A", "B", "Z", "a", "a\x00", "a\x00\x00", "aa", "aaaaaa", "aaaaab", "aaab", "ab", "b",
		"\x7f", "\x7f\xff", "\x80", "\x80\x00", "\xc3\xa9", "\xed\x9f\xbf", "\xee\x80\x80", "\xef\xbf\xbd", "\xf0\x9f\x98\x80", "\xfe", "\xff", "\xff\x00", "\xff\xff", "\xff\xff\xff\xff\xff\xff",
	}
}

// P6.1: keys that rise, that are the same, that fall: each with each, as the first two, the middle two, the last two.
func TestKeysRise(t *testing.T) {
	keys := rising()
	for i, a := range keys {
		for j, b := range keys {
			may := i < j
			either(t, leaf(a, "x", b, "y"), may)
			either(t, other([]string{a, b}, 2, 3, 1), may)
			if i > 0 && j > 0 {
				either(t, leaf("\x00", "x", a, "y", b, "z"), may)
				either(t, other([]string{"\x00", a, b}, 2, 3, 1, 4), may)
			}
			if last := len(keys) - 1; i < last && j < last {
				either(t, leaf(a, "x", b, "y", keys[last], "z"), may)
				either(t, other([]string{a, b, keys[last]}, 2, 3, 1, 4), may)
			}
		}
	}
	for i := range 4 * 4 * 4 * 4 {
		row := []string{"a", "ab", "b", "\x80"}
		k := []string{row[i%4], row[i/4%4], row[i/16%4], row[i/64]}
		may := k[0] == "a" && k[1] == "ab" && k[2] == "b" && k[3] == "\x80"
		either(t, leaf(k[0], "", k[1], "", k[2], "", k[3], ""), may)
		either(t, other(k, 5, 4, 3, 2, 1), may)
	}
}

// P6.1: a key and a value may hold any byte at any place; of values the same one may be there twice, in any row.
func TestAnyByte(t *testing.T) {
	for v := range 256 {
		for i := range 6 {
			either(t, leaf(with("middle", i, byte(v)), "x"), true)
			either(t, other([]string{with("middle", i, byte(v))}, 7, 6), true)
		}
		for i := range 10 {
			either(t, leaf("a", with("in the mid", i, byte(v)), "b", "\xff"), true)
		}
	}
	either(t, leaf("a", "same", "b", "same", "c", "same"), true)
	either(t, leaf("a", "z", "b", "y", "c", ""), true)
}

// P6.1: any one byte of a page's text turned: Get tells what Put tells that of, or refuses it.
func TestGetOfAnyOtherByte(t *testing.T) {
	for _, p := range several() {
		s := reckoned(p)
		stands(t, p, s)
		for i := range s {
			for v := range 256 {
				getsAsTold(t, with(s, i, byte(v)))
			}
		}
	}
}

// P6.1: any byte of a page's text left out, put in, or there twice.
func TestGetOfOtherLengths(t *testing.T) {
	for _, p := range several() {
		s := reckoned(p)
		for i := range s {
			getsAsTold(t, s[:i]+s[i+1:])
			for v := range 256 {
				getsAsTold(t, s[:i]+string([]byte{byte(v)})+s[i:])
			}
		}
	}
}

// P6.1: no text that a page's begins with, and none that goes on behind it, is a page's; of what it ends with, and of what stands ahead of it, what Put tells.
func TestGetOfBeginningsAndMore(t *testing.T) {
	for _, p := range several() {
		s := reckoned(p)
		for n := range s {
			refused(t, s[:n])
			getsAsTold(t, s[n:])
		}
		for v := range 256 {
			refused(t, s+string([]byte{byte(v)}))
		}
		for _, more := range []string{"\x00\x00", "x", "\x01\x00", "\x03abc", strings.Repeat("\x00", 96-len(s)), strings.Repeat("\x00", 1000), s, s + s} {
			refused(t, s+more)
		}
		for _, ahead := range []string{"\x00", "x", "\x02", "\xff\xff", strings.Repeat("\x00", 96)} {
			getsAsTold(t, ahead+s)
		}
	}
}

// P6.1: every text of at most two bytes, and of three but for the last ones.
func TestGetOfEveryShortText(t *testing.T) {
	refused(t, "")
	for a := range 256 {
		refused(t, string([]byte{byte(a)}))
		for b := range 256 {
			s := string([]byte{byte(a), byte(b)})
			if s == "\x01\x00" {
				stands(t, leaf(), s)
				continue
			}
			refused(t, s)
			refused(t, s+"\x00")
			refused(t, s+"\x01")
		}
	}
}

// P6.1: every text of at most nine bytes of which each is 0, 1, 2 or 3.
func TestGetOfEveryTextOfFewBytes(t *testing.T) {
	pages := 0
	for n := range 10 {
		b := make([]byte, n)
		for i := range 1 << (2 * n) {
			for k := range b {
				b[k] = byte(i >> (2 * k) & 3)
			}
			s := string(b)
			getsAsTold(t, s)
			if _, ok := told(s); ok {
				pages++
			}
		}
	}
	if pages < 100 {
		t.Errorf("%d pages, too few to tell anything", pages)
	}
}

// P6.1: bytes that no page is told as.
func TestGetRefusesWhatPutNeverTells(t *testing.T) {
	for _, s := range []string{
		"\x00\x00", "\x03\x00", "\xff\x00", "\x81\x00", "1\x000",
		"\x02\x00", "\x02\x00\x01", "\x00\x01\x01a\x00", "\x03\x01\x01a\x01\x02",
		"\x01\x01", "\x01\x01\x01", "\x01\x01\x01a", "\x01\x01\x01a\x01", "\x01\x01\x02a\x00", "\x01\x01\x01a\x02x",
		"\x01\x00\x01a\x00", "\x01\x02\x01a\x00", "\x01\x01\x01a\x00\x01b\x00", "\x01\x01\x01a\x00\x01",
		"\x01\x01\x00\x00", "\x01\x01\x07abcdefg\x00", "\x01\x01\x01a\x0b0123456789a", "\x01\x01\x01a\xff" + text(255, 0), "\x01\x01\xff" + text(255, 0) + "\x00",
		"\x01\x02\x01a\x00\x01a\x00", "\x01\x02\x01b\x00\x01a\x00", "\x01\x02\x02ab\x00\x01a\x00", "\x01\x02\x01\xff\x00\x01\x7f\x00",
		"\x01\x05\x01a\x00\x01b\x00\x01c\x00\x01d\x00\x01e\x00",
		"\x01\x84\x01a\x00\x01b\x00\x01c\x00\x01d\x00",
		"\x01\x01\x01a\x01\x02\x03", "\x01\x01\x01a\x00\x01\x02",
		"\x02\x01\x01a", "\x02\x01\x01a\x01", "\x02\x01\x01a\x01\x02\x03", "\x02\x01\x01a\x00\x01\x02", "\x02\x01\x01a\x01x\x01\x02",
		"\x02\x01\x01a\x00\x01", "\x02\x01\x01a\x01\x00", "\x02\x01\x01a\x30\x01", "\x02\x01\x01a\x01\x30", "\x02\x01\x01a\x01\x01", "\x02\x01\x01a\x01\xff", "\x02\x01\x01a\x01\x82",
		"\x02\x01\x00\x01\x02", "\x02\x01\x07abcdefg\x01\x02", "\x02\x02\x01a\x01a\x01\x02\x03", "\x02\x02\x01b\x01a\x01\x02\x03", "\x02\x02\x01a\x01b\x01\x02\x01",
		"\x02\x05\x01a\x01b\x01c\x01d\x01e\x01\x02\x03\x04\x05\x06",
		strings.Repeat("\x00", 96), strings.Repeat("\x01", 96), strings.Repeat("\x02", 96), strings.Repeat("\xff", 96), strings.Repeat("\x01", 100000), strings.Repeat("\xff", 100000),
	} {
		refused(t, s)
	}
}

// R4: no call changes what it is given, its spare room neither.
func TestArgumentsStay(t *testing.T) {
	keys := []string{"a", "b", "c", "d", "spare", "room"}
	values := []string{"x", "", "y", "z", "spare", "room"}
	kids := []int{5, 4, 3, 2, 1, 77, 78}
	before := api.Page{Keys: slices.Clone(keys), Values: slices.Clone(values), Kids: slices.Clone(kids)}
	for n := range 7 {
		for _, p := range []api.Page{
			{Used: true, Leaf: true, Keys: keys[:n], Values: values[:n]},
			{Used: true, Keys: keys[:n], Kids: kids[:n+1]},
			{Used: true, Leaf: true, Keys: keys[:n], Values: values[:n], Kids: kids[:n+1]},
		} {
			want := copied(p)
			may := May(p)
			_, e := Put(p)
			if may != (e == api.OK) || !same(p, want) {
				t.Errorf("May and Put made %+v of %+v", p, want)
			}
		}
	}
	if !same(api.Page{Keys: keys, Values: values, Kids: kids}, before) {
		t.Errorf("May and Put made %q, %q, %v of %+v", keys, values, kids, before)
	}
}

// R4: Put's text lies in no memory of its argument's, nor in another answer's.
func TestPutSharesNoMemory(t *testing.T) {
	for _, p := range several() {
		first, _ := Put(p)
		second, _ := Put(p)
		if first == "" || overlap(first, second) {
			t.Errorf("Put(%+v): %q and %q lie in one memory", p, first, second)
		}
		for _, s := range slices.Concat(p.Keys, p.Values) {
			if overlap(first, s) {
				t.Errorf("Put(%+v): the answer lies in the memory of %q", p, s)
			}
		}
	}
}

// R4: Get's texts lie in no memory of its argument's, nor in each other's, and each list is its own, with its spare room.
func TestGetSharesNoMemory(t *testing.T) {
	for _, p := range several() {
		s := reckoned(p)
		first, _ := Get(s)
		second, _ := Get(s)
		texts := slices.Concat(first.Keys, first.Values, second.Keys, second.Values)
		for i, one := range texts {
			if overlap(one, s) {
				t.Errorf("Get(%q): %q lies in the argument's memory", s, one)
			}
			for _, two := range texts[i+1:] {
				if overlap(one, two) {
					t.Errorf("Get(%q): %q and %q lie in one memory", s, one, two)
				}
			}
		}
		fill(first.Keys, "junk")
		if !slices.Equal(first.Values, p.Values) {
			t.Errorf("Get(%q): keys and values share memory: %q", s, first.Values)
		}
		fill(first.Values, "junk")
		fill(first.Kids, 99)
		if again, e := Get(s); !same(second, p) || !same(again, p) || e != api.OK {
			t.Errorf("Get(%q): two answers share memory: %+v, %+v", s, second, again)
		}
	}
}

// fill writes v all over a list and its spare room.
func fill[T any](list []T, v T) {
	full := list[:cap(list)]
	for i := range full {
		full[i] = v
	}
}

// overlap asks whether two texts have a byte of memory in common.
func overlap(a string, b string) bool {
	if a == "" || b == "" {
		return false
	}
	x := uintptr(unsafe.Pointer(unsafe.StringData(a)))
	y := uintptr(unsafe.Pointer(unsafe.StringData(b)))
	return x < y+uintptr(len(b)) && y < x+uintptr(len(a))
}

// R4: what was handed in may be written over: what was told of it stays.
func TestNothingIsKept(t *testing.T) {
	p := leaf("a", "x", "b", "y")
	s := reckoned(p)
	got, e := Put(p)
	fill(p.Keys, "zz")
	fill(p.Values, "zz")
	if got != s || e != api.OK {
		t.Errorf("Put told %q, error %d, not %q", got, e, s)
	}
	mayNot(t, p)
	stands(t, leaf("a", "x", "b", "y"), s)
}

// R5: the same arguments, the same answers, whatever was asked in between, also from several goroutines at one time.
func TestAnswersHangOnArgumentsAlone(t *testing.T) {
	pages := several()
	for range 2 {
		for _, p := range pages {
			s := reckoned(p)
			refused(t, s+"\x01")
			stands(t, p, s)
			mayNot(t, api.Page{Keys: p.Keys, Values: p.Values, Kids: p.Kids})
			refused(t, "")
			stands(t, p, s)
		}
	}
	done := make(chan bool)
	for range 8 {
		go func() {
			fine := true
			for _, p := range pages {
				s, e := Put(p)
				got, f := Get(s)
				fine = fine && May(p) && s == reckoned(p) && same(got, p) && e == api.OK && f == api.OK
			}
			done <- fine
		}()
	}
	for range 8 {
		if !<-done {
			t.Errorf("another answer at one time with others")
		}
	}
}
