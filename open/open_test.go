package open

import (
	"math"
	"slices"
	"strings"
	"testing"
	"unsafe"

	"cryostat/api"
	"cryostat/disk"
)

// The bytes of sectors are written out here by the chapters' words, without the layers that Open calls.

// full tells a text of n bytes b.
func full(b byte, n int) string {
	return strings.Repeat(string([]byte{b}), n)
}

// reckoned tells the four bytes of n, the highest first, by division.
func reckoned(n int) string {
	return string([]byte{byte(n / 16777216), byte(n / 65536 % 256), byte(n / 256 % 256), byte(n % 256)})
}

// padded tells s with as many bytes 0 behind it as make it Half bytes.
func padded(s string) string {
	return s + full(0, 32-len(s))
}

// sector tells Half bytes, and behind them their complements.
func sector(half string) string {
	b := []byte(half)
	for i := range half {
		b = append(b, 255-half[i])
	}
	return string(b)
}

// headOf tells the sector of a head.
func headOf(number int, start int) string {
	return sector(padded("cryo" + reckoned(number) + reckoned(start)))
}

// part tells the sector of a record.
func part(seq int, page int, part int, data string) string {
	return sector(padded(reckoned(seq) + string([]byte{byte(page), byte(part), byte(len(data)), 0}) + data))
}

// end tells the sector of a commit.
func end(seq int) string {
	return part(seq, 0, 4, "")
}

// image tells an image.
func image(page int, text string) api.Image {
	return api.Image{Page: page, Text: text}
}

// transaction tells the sectors of one, the first one's number seq.
func transaction(seq int, is ...api.Image) []string {
	var list []string
	for _, i := range is {
		left := i.Text
		for k := range 4 {
			n := min(24, len(left))
			list = append(list, part(seq+len(list), i.Page, k, left[:n]))
			left = left[n:]
		}
	}
	return append(list, end(seq+len(list)))
}

// transactions tells the sectors of several, one behind the other, the first one's number seq.
func transactions(seq int, of ...[]api.Image) []string {
	var list []string
	for _, is := range of {
		list = append(list, transaction(seq+len(list), is...)...)
	}
	return list
}

// bare tells a disk of bytes 0 with the head {3, start} in sector 0.
func bare(start int) api.Disk {
	d := api.Disk{Sectors: slices.Repeat([]string{full(0, 64)}, 394)}
	d.Sectors[0] = headOf(3, start)
	return d
}

// logged tells such a disk whose log begins with these sectors.
func logged(start int, list []string) api.Disk {
	d := bare(start)
	copy(d.Sectors[2:202], list)
	return d
}

// atHome lays a page's parts in their places.
func atHome(d api.Disk, page int, data ...string) {
	for k, s := range data {
		d.Sectors[202+4*page+k] = part(1, page, k, s)
	}
}

// texts tells 48 empty ones but for these.
func texts(of ...api.Image) []string {
	list := make([]string, 48)
	for _, i := range of {
		list[i.Page] = i.Text
	}
	return list
}

// pager tells one of the head {3, start}, of so many used sectors, and of these pages.
func pager(start int, used int, of ...api.Image) api.Pager {
	return api.Pager{Head: api.Head{Number: 3, Start: start}, Next: start + used, Used: used, Text: texts(of...)}
}

// same asks whether two pagers tell the same.
func same(a api.Pager, b api.Pager) bool {
	return a.Head == b.Head && a.Next == b.Next && a.Used == b.Used && slices.Equal(a.Text, b.Text)
}

// is asks that a call told the pager want.
func is(t *testing.T, what string, got api.Pager, want api.Pager) {
	t.Helper()
	if got.Head != want.Head || got.Next != want.Next || got.Used != want.Used || len(got.Text) != len(want.Text) {
		t.Errorf("%s: head %+v, next %d, used %d, %d texts, not %+v, %d, %d, %d", what,
			got.Head, got.Next, got.Used, len(got.Text), want.Head, want.Next, want.Used, len(want.Text))
		return
	}
	for i, s := range want.Text {
		if got.Text[i] != s {
			t.Errorf("%s: page %d is %q, not %q", what, i, got.Text[i], s)
		}
	}
}

// opens asks that Open tells the pager want of d.
func opens(t *testing.T, what string, d api.Disk, want api.Pager) {
	t.Helper()
	got, e := Open(d)
	if e != api.OK {
		t.Errorf("%s: error %d", what, e)
		return
	}
	is(t, what, got, want)
}

// refused asks that Open answers this error of d, and nothing beside it (R2).
func refused(t *testing.T, what string, d api.Disk, want api.Errno) {
	t.Helper()
	got, e := Open(d)
	if e != want || got.Head != (api.Head{}) || got.Next != 0 || got.Used != 0 || len(got.Text) != 0 {
		t.Errorf("%s: %+v, error %d, not nothing and error %d", what, got, e, want)
	}
}

// P7.1: Blank's pager, and that none hangs on what was done to another one (R4, R5).
func TestBlank(t *testing.T) {
	want := api.Pager{Head: api.Head{Number: 0, Start: 1}, Next: 1, Used: 0, Text: texts()}
	first, second := Blank(), Blank()
	is(t, "Blank", first, want)
	is(t, "Blank once more", second, want)
	first.Text[0], first.Text[47], first.Next, first.Head.Number = "x", "y", 7, 9
	_ = append(first.Text, "more")
	is(t, "Blank, another answer written over", second, want)
	is(t, "Blank behind another answer that was written over", Blank(), want)
}

// P7.2: what a disk tells that holds a head alone is Blank's, if the head is {0, 1}.
func TestOpenOfAHeadAlone(t *testing.T) {
	d := bare(1)
	d.Sectors[0] = headOf(0, 1)
	opens(t, "the first head alone", d, Blank())
	opens(t, "a head alone", bare(77), pager(77, 0))
}

// mayNot tells disks that may not be, though each has a head.
func mayNot() map[string]api.Disk {
	list := map[string]api.Disk{"nothing": {}}
	for what, n := range map[string]int{"no sectors": 0, "one sector": 1, "as many as the log needs": 202, "one sector less": 393, "one sector more": 395, "twice as many": 788} {
		d := bare(1)
		d.Sectors = append(d.Sectors, d.Sectors...)[:n]
		list[what] = d
	}
	for at, where := range map[int]string{0: "the first", 1: "the second", 2: "the log's first", 201: "the log's last", 202: "home's first", 393: "the last"} {
		for n, length := range map[int]string{0: "empty", 32: "a half", 63: "a byte less", 65: "a byte more"} {
			d := bare(1)
			d.Sectors[1] = headOf(1, 1)
			d.Sectors[at] = full(0, n)
			list[where+", "+length] = d
			d = bare(1)
			d.Cache = []api.Write{{At: 5, Text: full(1, 64)}, {At: at, Text: full(0, n)}, {At: 6, Text: full(1, 64)}}
			list["a write of "+where+", "+length] = d
		}
	}
	for at, where := range map[int]string{-1: "ahead", 394: "behind", math.MinInt: "far ahead", math.MaxInt: "far behind"} {
		d := bare(1)
		d.Cache = []api.Write{{At: at, Text: full(0, 64)}}
		list["a write "+where] = d
	}
	d := bare(1)
	d.Cache = slices.Repeat([]api.Write{{At: 9, Text: full(0, 64)}}, 513)
	list["too many writes"] = d
	return list
}

// P7.2, R2: a disk that may not be.
func TestOpenOfADiskThatMayNotBe(t *testing.T) {
	for what, d := range mayNot() {
		refused(t, what, d, api.ErrOpenForm)
	}
	d := bare(1)
	d.Cache = slices.Repeat([]api.Write{{At: 9, Text: full(0, 64)}}, 512)
	opens(t, "as many writes as may be", d, pager(1, 0))
}

// P7.2, R6: a disk that may not be, and that has no head: it is asked first whether it may be.
func TestFormComesFirst(t *testing.T) {
	for what, d := range mayNot() {
		for _, at := range []int{0, 1} {
			if at < len(d.Sectors) && len(d.Sectors[at]) == 64 {
				d.Sectors[at] = full(0, 64)
			}
		}
		refused(t, what+", without a head", d, api.ErrOpenForm)
	}
}

// headless tells sectors without a head.
func headless() []string {
	x := headOf(7, 9)
	return []string{
		full(0, 64), full(255, 64), x[32:] + x[:32], x[:32] + x[:32], x[:63] + "\x00", "C" + x[1:],
		sector(padded("Cryo" + reckoned(7) + reckoned(9))), sector(padded("cryo" + reckoned(7) + reckoned(0))),
		sector(padded("cryo" + reckoned(1<<31) + reckoned(9))), sector(padded("cryo" + reckoned(7) + reckoned(9) + "x")),
		part(9, 0, 0, "cryo"), end(9),
	}
}

// P7.2, R2: no head in either sector, whatever stands elsewhere.
func TestOpenWithoutAHead(t *testing.T) {
	refused(t, "a new disk", disk.New(), api.ErrHeadNone)
	for _, a := range headless() {
		for _, b := range headless() {
			d := logged(1, transaction(1, image(3, "three")))
			atHome(d, 5, "a", "b", "c", "d")
			d.Sectors[0], d.Sectors[1] = a, b
			refused(t, "no head", d, api.ErrHeadNone)
			for _, at := range []int{2, 201, 202, 393} {
				d.Sectors[at] = headOf(1, 1)
			}
			refused(t, "heads elsewhere alone", d, api.ErrHeadNone)
		}
	}
}

// P7.2: one head, in either place.
func TestOpenOfOneHead(t *testing.T) {
	for _, other := range headless() {
		for _, at := range []int{0, 1} {
			for _, h := range []api.Head{{Number: 0, Start: 1}, {Number: 1, Start: 40}, {Number: 2147483647, Start: 2147483647}} {
				d := bare(1)
				atHome(d, 5, "a", "b", "c", "d")
				d.Sectors[at], d.Sectors[1-at] = headOf(h.Number, h.Start), other
				opens(t, "one head", d, api.Pager{Head: h, Next: h.Start, Text: texts(image(5, "abcd"))})
			}
		}
	}
}

// P7.2: of two heads the one of the greater Number, of the same Number the first one; the log is read from its Start.
func TestOpenOfTwoHeads(t *testing.T) {
	list := transactions(20, []api.Image{image(1, "first")}, []api.Image{image(2, "second")})
	for _, c := range []struct{ a, b, want api.Head }{
		{api.Head{Number: 1, Start: 20}, api.Head{Number: 2, Start: 30}, api.Head{Number: 2, Start: 30}},
		{api.Head{Number: 2, Start: 30}, api.Head{Number: 1, Start: 20}, api.Head{Number: 2, Start: 30}},
		{api.Head{Number: 2, Start: 20}, api.Head{Number: 1, Start: 30}, api.Head{Number: 2, Start: 20}},
		{api.Head{Number: 1, Start: 30}, api.Head{Number: 2, Start: 20}, api.Head{Number: 2, Start: 20}},
		{api.Head{Number: 5, Start: 20}, api.Head{Number: 5, Start: 30}, api.Head{Number: 5, Start: 20}},
		{api.Head{Number: 5, Start: 30}, api.Head{Number: 5, Start: 20}, api.Head{Number: 5, Start: 30}},
		{api.Head{Number: 255, Start: 20}, api.Head{Number: 256, Start: 7}, api.Head{Number: 256, Start: 7}},
		{api.Head{Number: 0, Start: 20}, api.Head{Number: 2147483647, Start: 1}, api.Head{Number: 2147483647, Start: 1}},
	} {
		d := logged(1, list)
		d.Sectors[0], d.Sectors[1] = headOf(c.a.Number, c.a.Start), headOf(c.b.Number, c.b.Start)
		want := api.Pager{Head: c.want, Next: c.want.Start, Text: texts()}
		if c.want.Start == 20 {
			want = api.Pager{Head: c.want, Next: 30, Used: 10, Text: texts(image(1, "first"), image(2, "second"))}
		}
		opens(t, "two heads", d, want)
	}
}

// P7.2: writes that lie over a head: the last one counts, whatever lasts.
func TestOpenReadsWritesOfHeads(t *testing.T) {
	for _, at := range []int{0, 1} {
		d := bare(20)
		d.Cache = []api.Write{{At: at, Text: headOf(4, 50)}}
		opens(t, "a head that is a write", d, api.Pager{Head: api.Head{Number: 4, Start: 50}, Next: 50, Text: texts()})
		d.Cache = append(d.Cache, api.Write{At: at, Text: headOf(5, 60)})
		opens(t, "a head that is a later write", d, api.Pager{Head: api.Head{Number: 5, Start: 60}, Next: 60, Text: texts()})
		d.Cache = append(d.Cache, api.Write{At: 0, Text: full(0, 64)}, api.Write{At: 1, Text: full(0, 64)})
		refused(t, "heads that writes took away", d, api.ErrHeadNone)
	}
	d := bare(20)
	d.Cache = []api.Write{{At: 0, Text: headOf(2, 10)}}
	opens(t, "a lesser head over a greater one", d, api.Pager{Head: api.Head{Number: 2, Start: 10}, Next: 10, Text: texts()})
}

// P7.2: writes that lie over pages at home and over the log, and give them or take them away.
func TestOpenReadsWritesOfPagesAndOfTheLog(t *testing.T) {
	d := logged(20, transaction(20, image(1, "one"), image(7, "seven")))
	atHome(d, 6, "a", "b", "c", "d")
	opens(t, "no writes", d, pager(20, 9, image(1, "one"), image(7, "seven"), image(6, "abcd")))
	d.Cache = []api.Write{{At: 202 + 4*6 + 2, Text: full('x', 64)}}
	opens(t, "a part that a write took away", d, pager(20, 9, image(1, "one"), image(7, "seven")))
	d.Cache = append(d.Cache, api.Write{At: 202 + 4*6 + 2, Text: part(1, 6, 2, "CCC")})
	opens(t, "a part that a later write told", d, pager(20, 9, image(1, "one"), image(7, "seven"), image(6, "abCCCd")))
	for k, s := range []string{"e", "f", "g", "h"} {
		d.Cache = append(d.Cache, api.Write{At: 202 + 4*8 + k, Text: part(1, 8, k, s)})
	}
	opens(t, "a page of writes alone", d, pager(20, 9, image(1, "one"), image(7, "seven"), image(6, "abCCCd"), image(8, "efgh")))
	for k, s := range transaction(29, image(7, "new")) {
		d.Cache = append(d.Cache, api.Write{At: 2 + 9 + k, Text: s})
	}
	opens(t, "a transaction of writes alone", d, pager(20, 14, image(1, "one"), image(7, "new"), image(6, "abCCCd"), image(8, "efgh")))
	d.Cache = append(d.Cache, api.Write{At: 2 + 8, Text: part(28, 8, 0, "")})
	opens(t, "a commit that a write took away", d, pager(20, 0, image(6, "abCCCd"), image(8, "efgh")))
}

// P7.2: each page at home, its parts' Data of any length, one behind the other.
func TestOpenOfPagesAtHome(t *testing.T) {
	a, b, c, e := full('a', 24), full('b', 24), full('c', 24), full('e', 24)
	for _, data := range [][]string{
		{"", "", "", ""}, {"x", "", "", ""}, {"", "x", "", ""}, {"", "", "", "x"}, {"x", "yy", "zzz", "wwww"},
		{a, b, c, e}, {a, b, c, ""}, {a, "b", "", ""}, {"a", b, "c", e}, {"", b, "", e}, {full(0, 24), full(255, 3), "\x00", ""},
	} {
		for page := range 48 {
			d := bare(20)
			atHome(d, page, data...)
			opens(t, "a page at home", d, pager(20, 0, image(page, strings.Join(data, ""))))
		}
	}
	d := bare(20)
	var all []api.Image
	for page := range 48 {
		atHome(d, page, "first", string([]byte{byte(page)}), "", full('x', page%25))
		all = append(all, image(page, "first"+string([]byte{byte(page)})+full('x', page%25)))
	}
	opens(t, "all pages at home", d, pager(20, 0, all...))
}

// P7.2: a page of which one part is not there, in each place: it is empty, the others are not.
func TestOpenOfPagesThatAreNotAllAtHome(t *testing.T) {
	for _, page := range []int{0, 1, 20, 46, 47} {
		near := (page + 1) % 48
		for k := range 4 {
			good := part(1, page, k, "part")
			for what, s := range map[string]string{
				"missing":            full(0, 64),
				"not whole":          good[:63] + string([]byte{good[63] ^ 1}),
				"its half twice":     good[:32] + good[:32],
				"torn":               good[:20] + part(1, page, k, "another old part")[20:],
				"no record":          sector(full('x', 32)),
				"a record of Seq 0":  part(0, page, k, "part"),
				"of Seq 2":           part(2, page, k, "part"),
				"of the log's Seq":   part(20, page, k, "part"),
				"of the most Seq":    part(2147483647, page, k, "part"),
				"of another page":    part(1, near, k, "part"),
				"of no page":         part(1, 48, k, "part"),
				"of another part":    part(1, page, (k+1)%4, "part"),
				"of the part ahead":  part(1, page, (k+3)%4, "part"),
				"a commit":           end(1),
				"a commit of a page": part(1, page, 4, ""),
				"of too much Data":   sector(padded(reckoned(1) + string([]byte{byte(page), byte(k), 25, 0}) + full('x', 24))),
				"a byte behind":      sector(padded(reckoned(1) + string([]byte{byte(page), byte(k), 1, 0}) + "xy")),
				"a head":             headOf(9, 9),
			} {
				d := bare(20)
				atHome(d, near, "n", "e", "a", "r")
				atHome(d, page, "part", "part", "part", "part")
				opens(t, "a whole page", d, pager(20, 0, image(near, "near"), image(page, "partpartpartpart")))
				d.Sectors[202+4*page+k] = s
				opens(t, what, d, pager(20, 0, image(near, "near")))
			}
		}
	}
}

// P7.2: any one byte of a page's sectors turned: layer 1 refuses it, so the page is empty.
func TestOpenOfAnyOtherByteAtHome(t *testing.T) {
	d := bare(20)
	atHome(d, 30, "near", "", "", "")
	atHome(d, 31, "a", full('b', 24), "", "dd")
	for k := range 4 {
		at := 202 + 4*31 + k
		whole := d.Sectors[at]
		for i := range 64 {
			for _, v := range []byte{1, 2, 128, 255} {
				b := []byte(whole)
				b[i] ^= v
				d.Sectors[at] = string(b)
				opens(t, "a byte turned", d, pager(20, 0, image(30, "near")))
			}
		}
		d.Sectors[at] = whole
	}
	opens(t, "no byte turned", d, pager(20, 0, image(30, "near"), image(31, "a"+full('b', 24)+"dd")))
}

// P7.2: a part that was torn between two of its own page's: empty, but for where nothing of either is missing.
func TestOpenOfTornParts(t *testing.T) {
	old, fresh := part(1, 9, 2, "an old part"), part(1, 9, 2, "the new one of the page")
	for at := range 65 {
		d := bare(20)
		atHome(d, 9, "front ", "", "", " back")
		d.Sectors[202+4*9+2] = fresh[:at] + old[at:]
		switch fresh[:at] + old[at:] {
		case old:
			opens(t, "not torn yet", d, pager(20, 0, image(9, "front an old part back")))
		case fresh:
			opens(t, "all of it written", d, pager(20, 0, image(9, "front the new one of the page back")))
		default:
			opens(t, "torn", d, pager(20, 0))
		}
	}
}

// P7.2: logs of no, one and several transactions; of each page the last image counts, over what is at home.
func TestOpenOfTransactions(t *testing.T) {
	long := full('l', 96)
	for _, c := range []struct {
		what string
		of   [][]api.Image
		used int
		want []api.Image
	}{
		{"none", nil, 0, []api.Image{image(5, "five"), image(9, "nine")}},
		{"one of no images", [][]api.Image{{}}, 1, []api.Image{image(5, "five"), image(9, "nine")}},
		{"one of one image", [][]api.Image{{image(7, "seven")}}, 5, []api.Image{image(5, "five"), image(9, "nine"), image(7, "seven")}},
		{"over a page at home", [][]api.Image{{image(5, "new")}}, 5, []api.Image{image(5, "new"), image(9, "nine")}},
		{"an empty text over a page at home", [][]api.Image{{image(5, "")}}, 5, []api.Image{image(9, "nine")}},
		{"one of several images", [][]api.Image{{image(0, long), image(5, "5"), image(47, full('x', 25))}}, 13, []api.Image{image(0, long), image(5, "5"), image(47, full('x', 25)), image(9, "nine")}},
		{"several", [][]api.Image{{image(3, "three")}, {image(1, "one"), image(4, long)}, {}, {image(2, full('t', 24))}}, 20, []api.Image{image(1, "one"), image(2, full('t', 24)), image(3, "three"), image(4, long), image(5, "five"), image(9, "nine")}},
		{"one page in turn", [][]api.Image{{image(3, long)}, {image(3, "b")}, {image(3, "c")}}, 15, []api.Image{image(3, "c"), image(5, "five"), image(9, "nine")}},
		{"one page in turn, the last time empty", [][]api.Image{{image(3, "a"), image(5, "x")}, {image(3, "b")}, {image(3, "")}}, 19, []api.Image{image(5, "x"), image(9, "nine")}},
		{"pages in turn", [][]api.Image{{image(3, "a"), image(5, "b")}, {image(3, "c"), image(9, "d")}, {image(5, "e")}}, 23, []api.Image{image(3, "c"), image(5, "e"), image(9, "d")}},
	} {
		for _, start := range []int{1, 2, 201, 1 << 24, 2147483647 - 30} {
			d := logged(start, transactions(start, c.of...))
			atHome(d, 5, "f", "i", "v", "e")
			atHome(d, 9, "nine", "", "", "")
			opens(t, c.what, d, pager(start, c.used, c.want...))
		}
	}
}

// P7.2: what stands behind the last commit is nothing, at each place where a log is cut off.
func TestOpenOfALogThatIsCutOff(t *testing.T) {
	list := transactions(20, []api.Image{image(1, "one"), image(3, full('x', 50))}, []api.Image{image(1, "new")}, []api.Image{image(2, "two")})
	for n := range len(list) + 1 {
		want := pager(20, 0)
		switch {
		case n >= 19:
			want = pager(20, 19, image(1, "new"), image(2, "two"), image(3, full('x', 50)))
		case n >= 14:
			want = pager(20, 14, image(1, "new"), image(3, full('x', 50)))
		case n >= 9:
			want = pager(20, 9, image(1, "one"), image(3, full('x', 50)))
		}
		opens(t, "a log that is cut off", logged(20, list[:n]), want)
	}
}

// P7.2: the last commit missing, torn, or one of another number: its transaction is nothing, though more stand behind it.
func TestOpenWithoutACommit(t *testing.T) {
	for _, s := range []string{full(0, 64), end(29)[:63] + "x", end(28), end(30), part(29, 0, 4, "x"), part(29, 3, 4, ""), part(29, 5, 1, ""), part(29, 0, 0, "")} {
		list := transactions(20, []api.Image{image(1, "one")}, []api.Image{image(5, "five")}, []api.Image{image(6, "six")})
		list[9] = s
		opens(t, "no commit", logged(20, list), pager(20, 5, image(1, "one")))
	}
	opens(t, "no commit at all", logged(20, transaction(20, image(1, "one"))[:4]), pager(20, 0))
}

// P7.2: any one byte of a transaction's sectors turned: the ones ahead of it are told, it is not, nor what is behind it.
func TestOpenOfAnyOtherByteInTheLog(t *testing.T) {
	list := transactions(20, []api.Image{image(1, "one")}, []api.Image{image(1, full('y', 30)), image(2, "two")}, []api.Image{image(3, "three")})
	d := logged(20, list)
	for k := 5; k < 14; k++ {
		for i := range 64 {
			for _, v := range []byte{1, 128} {
				b := []byte(list[k])
				b[i] ^= v
				d.Sectors[2+k] = string(b)
				opens(t, "a byte turned", d, pager(20, 5, image(1, "one")))
			}
		}
		d.Sectors[2+k] = list[k]
	}
	opens(t, "no byte turned", d, pager(20, 19, image(1, full('y', 30)), image(2, "two"), image(3, "three")))
}

// P7.2: a sector of the log that is nothing keeps its place: the log ends there, it is not passed over.
func TestOpenDoesNotPassOver(t *testing.T) {
	whole := transactions(20, []api.Image{image(1, "one")}, []api.Image{image(2, "two")})
	for k := range len(whole) + 1 {
		want := pager(20, 0)
		switch {
		case k >= 10:
			want = pager(20, 10, image(1, "one"), image(2, "two"))
		case k >= 5:
			want = pager(20, 5, image(1, "one"))
		}
		for _, s := range []string{full(0, 64), full('x', 64), sector(full('x', 32)), headOf(4, 20), end(19)} {
			opens(t, "a sector between", logged(20, slices.Insert(slices.Clone(whole), k, s)), want)
		}
	}
}

// P7.2: a log that begins behind other records than Start's, or ahead of them, is of no transaction.
func TestOpenOfALogOfOtherNumbers(t *testing.T) {
	list := transactions(20, []api.Image{image(1, "one")}, []api.Image{image(2, "two")})
	for _, start := range []int{1, 19, 21, 24, 25, 30, 31, 276, 65556, 2147483647} {
		opens(t, "another Start", logged(start, list), pager(start, 0))
	}
	for n := 1; n < 5; n++ {
		opens(t, "a row that begins later", logged(20, list[n:]), pager(20, 0))
		opens(t, "a row behind others", logged(20, append(transaction(15, image(9, "x"))[:n], list...)), pager(20, 0))
	}
	opens(t, "a transaction behind an older one", logged(20, append(transaction(15, image(9, "x")), list...)), pager(20, 0))
	opens(t, "older ones behind", logged(25, append(transaction(25, image(2, "new")), transaction(20, image(3, "old"))...)), pager(25, 5, image(2, "new")))
	opens(t, "numbers that leave one out", logged(20, append(transaction(20, image(1, "one")), transaction(26, image(2, "two"))...)), pager(20, 5, image(1, "one")))
	opens(t, "numbers that come again", logged(20, append(transaction(20, image(1, "one")), transaction(24, image(2, "two"))...)), pager(20, 5, image(1, "one")))
	opens(t, "a transaction twice", logged(20, append(transaction(20, image(1, "one")), transaction(20, image(1, "two"))...)), pager(20, 5, image(1, "one")))
	later := logged(20, nil)
	copy(later.Sectors[3:], list)
	opens(t, "a log that begins at its second sector", later, pager(20, 0))
	early := logged(20, list[1:])
	early.Sectors[1] = list[0]
	opens(t, "a log that begins ahead of its first sector", early, pager(20, 0))
}

// P7.2: a log of all its sectors, and that what stands behind them is none of it.
func TestOpenOfAFullLog(t *testing.T) {
	var want []api.Image
	for page := range 48 {
		want = append(want, image(page, full(byte(page), 2*page)))
	}
	list := transactions(20, want[:24], want[24:], []api.Image{}, []api.Image{}, []api.Image{}, []api.Image{}, []api.Image{}, []api.Image{})
	if len(list) != 200 {
		t.Fatalf("%d sectors, not 200", len(list))
	}
	opens(t, "a full log", logged(20, list), pager(20, 200, want...))
	d := logged(20, list)
	d.Sectors[202] = end(220)
	opens(t, "a commit behind a full log", d, pager(20, 200, want...))
	list[199] = part(219, 0, 0, "x")
	d = logged(20, list)
	for k, s := range []string{"a", "b", "c"} {
		d.Sectors[202+k] = part(220+k, 0, 1+k, s)
	}
	d.Sectors[205] = end(223)
	opens(t, "a transaction that the log does not hold to its end", d, pager(20, 199, want...))
	opens(t, "commits alone", logged(1, transactions(1, make([][]api.Image, 200)...)), pager(1, 200))
}

// P7.2: a page at home is of Seq 1, wherever the log begins, and the log's records are of Start, wherever home is.
func TestOpenOfStartAtItsLimits(t *testing.T) {
	most := 2147483647
	for _, start := range []int{1, 2, most - 5, most - 4, most - 1, most} {
		d := bare(start)
		atHome(d, 9, "nine", "", "", "")
		opens(t, "no transaction", d, pager(start, 0, image(9, "nine")))
	}
	for _, start := range []int{1, 2, most - 5, most - 4} {
		opens(t, "a transaction", logged(start, transaction(start, image(9, "nine"))), pager(start, 5, image(9, "nine")))
	}
	opens(t, "a commit of the last number", logged(most, []string{end(most), end(most)}), pager(most, 1))
	opens(t, "a commit behind the last number", logged(most, []string{end(most), end(most + 1)}), pager(most, 1))
	opens(t, "a page, and no number left for a commit", logged(most-3, transaction(most-3, image(9, "nine"))), pager(most-3, 0))
	opens(t, "a Start that no record may have", logged(most, []string{end(0), end(1)}), pager(most, 0))
}

// cached tells a disk of writes over heads, pages and the log.
func cached() api.Disk {
	d := logged(20, transactions(20, []api.Image{image(1, "one"), image(3, full('x', 50))}, []api.Image{image(1, full('n', 30))}))
	d.Sectors[1] = headOf(2, 7)
	atHome(d, 5, "five", "", "at", "home")
	atHome(d, 6, "", "", "six", "")
	for k, s := range transaction(34, image(2, full('w', 26))) {
		d.Cache = append(d.Cache, api.Write{At: 2 + 14 + k, Text: s})
	}
	d.Cache = append(d.Cache, api.Write{At: 202 + 4*5, Text: part(1, 5, 0, "FIVE")})
	return d
}

// ofCached tells the pager of cached's disk.
func ofCached() api.Pager {
	return pager(20, 19, image(1, full('n', 30)), image(2, full('w', 26)), image(3, full('x', 50)), image(5, "FIVEathome"), image(6, "six"))
}

// copied tells d in memory of its own.
func copied(d api.Disk) api.Disk {
	c := api.Disk{}
	for _, s := range d.Sectors {
		c.Sectors = append(c.Sectors, strings.Clone(s))
	}
	for _, w := range d.Cache {
		c.Cache = append(c.Cache, api.Write{At: w.At, Text: strings.Clone(w.Text)})
	}
	return c
}

// R4: Open does not change what it is given, its spare room neither.
func TestOpenChangesNothing(t *testing.T) {
	headless := cached()
	headless.Sectors[0], headless.Sectors[1] = full(0, 64), full(0, 64)
	broken := cached()
	broken.Cache[2].At = 394
	for what, d := range map[string]api.Disk{"a disk that opens": cached(), "a disk without a head": headless, "a disk that may not be": broken} {
		room := api.Disk{Sectors: append(d.Sectors, "spare", "room"), Cache: append(d.Cache, api.Write{At: 1, Text: "spare"}, api.Write{At: 2, Text: "room"})}
		was := copied(room)
		d.Sectors, d.Cache = room.Sectors[:len(d.Sectors)], room.Cache[:len(d.Cache)]
		for range 2 {
			Open(d)
			if !slices.Equal(room.Sectors, was.Sectors) || !slices.Equal(room.Cache, was.Cache) {
				t.Errorf("%s: it was changed", what)
			}
		}
	}
}

// overlap asks whether two texts have a byte of memory in common.
func overlap(a string, b string) bool {
	if a == "" || b == "" {
		return false
	}
	x := uintptr(unsafe.Pointer(unsafe.StringData(a)))
	y := uintptr(unsafe.Pointer(unsafe.StringData(b)))
	return x < y+uintptr(len(b)) && y < x+uintptr(len(a))
}

// R4: no answer lies in the disk's memory, nor in another answer's.
func TestAnswersShareNoMemory(t *testing.T) {
	d := cached()
	first, _ := Open(d)
	second, _ := Open(d)
	is(t, "the first answer", first, ofCached())
	is(t, "the second answer", second, ofCached())
	var others []string
	others = append(append(others, d.Sectors...), second.Text...)
	for _, w := range d.Cache {
		others = append(others, w.Text)
	}
	for page, s := range first.Text {
		if slices.ContainsFunc(others, func(other string) bool { return overlap(s, other) }) {
			t.Errorf("page %d lies in memory that is not its own", page)
		}
	}
	for i := range first.Text {
		first.Text[i] = "written over"
	}
	is(t, "the second answer, the first one written over", second, ofCached())
	opens(t, "an answer behind one that was written over", d, ofCached())
}

// R4: what Open answered stays, whatever is done to the disk behind it.
func TestAnswersKeepNothing(t *testing.T) {
	d := cached()
	got, _ := Open(d)
	for i := range d.Sectors {
		d.Sectors[i] = full('x', 64)
	}
	for i := range d.Cache {
		d.Cache[i] = api.Write{At: 1, Text: headOf(9, 9)}
	}
	is(t, "an answer whose disk was written over", got, ofCached())
	opens(t, "the disk that was written over", d, api.Pager{Head: api.Head{Number: 9, Start: 9}, Next: 9, Text: texts()})
}

// R5: the same disks, the same answers, whatever was asked in between, also from several goroutines at one time.
func TestAnswersHangOnArgumentsAlone(t *testing.T) {
	d := cached()
	refused(t, "a new disk first", disk.New(), api.ErrHeadNone)
	opens(t, "behind one that was refused", d, ofCached())
	opens(t, "a bare disk", bare(20), pager(20, 0))
	refused(t, "no disk", api.Disk{}, api.ErrOpenForm)
	opens(t, "behind all of these", d, ofCached())
	opens(t, "a bare disk again", bare(20), pager(20, 0))
	done := make(chan bool)
	for range 8 {
		go func() {
			got, e := Open(d)
			_, f := Open(api.Disk{})
			done <- same(got, ofCached()) && e == api.OK && f == api.ErrOpenForm && len(Blank().Text) == 48
		}()
	}
	for range 8 {
		if !<-done {
			t.Errorf("another answer at one time with others")
		}
	}
}

// P7.2: Open tells of a disk what it tells behind a flush of it, and behind a crash by which all writes last.
func TestOpenBehindAFlush(t *testing.T) {
	d := cached()
	flushed, e := disk.Do(d, api.Step{Flush: true})
	if e != api.OK {
		t.Fatalf("disk.Do: error %d", e)
	}
	opens(t, "flushed", flushed, ofCached())
	crashed, e := disk.Crash(d, full(1, len(d.Cache)), -1, 0)
	if e != api.OK {
		t.Fatalf("disk.Crash: error %d", e)
	}
	opens(t, "crashed, and all writes lasted", crashed, ofCached())
	lost, _ := disk.Crash(d, "", -1, 0)
	opens(t, "crashed, and no write lasted", lost, pager(20, 14, image(1, full('n', 30)), image(3, full('x', 50)), image(5, "fiveathome"), image(6, "six")))
}
