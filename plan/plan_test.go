package plan

import (
	"math"
	"slices"
	"strings"
	"testing"
	"unsafe"

	"cryostat/api"
	"cryostat/disk"
	"cryostat/open"
)

// The bytes of sectors are written out here by the chapters' words, without the layers that plan calls.

const (
	most  = 2147483647
	limit = most - 1000
)

// full tells a text of n bytes b.
func full(b byte, n int) string {
	return strings.Repeat(string([]byte{b}), n)
}

// rising tells a text of n bytes that rise from first on, so that no piece of it is like another one.
func rising(first byte, n int) string {
	b := make([]byte, n)
	for i := range b {
		b[i] = first + byte(i)
	}
	return string(b)
}

// reckoned tells the four bytes of n, the highest first, by division.
func reckoned(n int) string {
	return string([]byte{byte(n / 16777216), byte(n / 65536 % 256), byte(n / 256 % 256), byte(n % 256)})
}

// sector tells s with bytes 0 behind it, Half bytes in all, and behind these their complements.
func sector(s string) string {
	b := []byte(s + full(0, 32-len(s)))
	for i := range 32 {
		b = append(b, 255-b[i])
	}
	return string(b)
}

// headOf tells the sector of a head.
func headOf(number int, start int) string {
	return sector("cryo" + reckoned(number) + reckoned(start))
}

// part tells the sector of a record.
func part(seq int, page int, part int, data string) string {
	return sector(reckoned(seq) + string([]byte{byte(page), byte(part), byte(len(data)), 0}) + data)
}

// to tells the step that writes a sector.
func to(at int, text string) api.Step {
	return api.Step{Write: api.Write{At: at, Text: text}}
}

// flushes is the step by which writes last.
var flushes = api.Step{Flush: true}

// image tells an image.
func image(page int, text string) api.Image {
	return api.Image{Page: page, Text: text}
}

// pieces tells the four pieces of a page's text.
func pieces(text string) []string {
	list := make([]string, 4)
	for i := range text {
		list[i/24] += text[i : i+1]
	}
	return list
}

// freshSteps tells what P8.2 asks of Fresh's steps.
func freshSteps(p api.Pager) []api.Step {
	var list []api.Step
	for page, text := range p.Text {
		for k, s := range pieces(text) {
			list = append(list, to(202+4*page+k, part(1, page, k, s)))
		}
	}
	number := p.Head.Number + 1
	return append(list, flushes, to(number%2, headOf(number, p.Next+200)), flushes)
}

// behindFresh tells what P8.2 asks of the pager behind Fresh.
func behindFresh(p api.Pager) api.Pager {
	start := p.Next + 200
	return api.Pager{Head: api.Head{Number: p.Head.Number + 1, Start: start}, Next: start, Text: slices.Clone(p.Text)}
}

// logSteps tells what P8.3 asks of the steps of a commit that the log holds.
func logSteps(p api.Pager, is []api.Image) []api.Step {
	var list []api.Step
	for _, i := range is {
		for k, s := range pieces(i.Text) {
			list = append(list, to(2+p.Used+len(list), part(p.Next+len(list), i.Page, k, s)))
		}
	}
	return append(list, to(2+p.Used+len(list), part(p.Next+len(list), 0, 4, "")), flushes)
}

// behindLog tells what P8.3 asks of the pager behind such a commit.
func behindLog(p api.Pager, is []api.Image) api.Pager {
	p.Next += 4*len(is) + 1
	p.Used += 4*len(is) + 1
	p.Text = over(p.Text, is)
	return p
}

// over tells texts with the images over them.
func over(texts []string, is []api.Image) []string {
	list := slices.Clone(texts)
	for _, i := range is {
		list[i.Page] = i.Text
	}
	return list
}

// pager tells one of a head, numbers and pages.
func pager(number int, start int, next int, used int, of ...api.Image) api.Pager {
	return api.Pager{Head: api.Head{Number: number, Start: start}, Next: next, Used: used, Text: over(make([]string, 48), of)}
}

// same asks whether two pagers tell the same.
func same(a api.Pager, b api.Pager) bool {
	return a.Head == b.Head && a.Next == b.Next && a.Used == b.Used && slices.Equal(a.Text, b.Text)
}

// isSteps asks that a call told the steps want.
func isSteps(t *testing.T, what string, got []api.Step, want []api.Step) {
	t.Helper()
	if len(got) != len(want) {
		t.Errorf("%s: %d steps, not %d", what, len(got), len(want))
		return
	}
	for i, s := range want {
		if got[i] != s {
			t.Errorf("%s: step %d is %v, not %v", what, i, got[i], s)
			return
		}
	}
}

// isPager asks that a call told the pager want.
func isPager(t *testing.T, what string, got api.Pager, want api.Pager) {
	t.Helper()
	if !same(got, want) {
		t.Errorf("%s: %+v, not %+v", what, got, want)
	}
}

// freshes asks that Fresh of p tells just what P8.2 says.
func freshes(t *testing.T, what string, p api.Pager) {
	t.Helper()
	steps, next, e := Fresh(p)
	if e != api.OK {
		t.Errorf("%s: Fresh: error %d", what, e)
		return
	}
	isSteps(t, what+": Fresh", steps, freshSteps(p))
	isPager(t, what+": Fresh", next, behindFresh(p))
}

// commits asks that Commit tells just these steps and this pager.
func commits(t *testing.T, what string, p api.Pager, is []api.Image, want []api.Step, behind api.Pager) {
	t.Helper()
	steps, next, e := Commit(p, is)
	if e != api.OK {
		t.Errorf("%s: Commit: error %d", what, e)
		return
	}
	isSteps(t, what+": Commit", steps, want)
	isPager(t, what+": Commit", next, behind)
}

// logs asks that Commit tells the steps of a log that holds them.
func logs(t *testing.T, what string, p api.Pager, is []api.Image) {
	t.Helper()
	commits(t, what, p, is, logSteps(p, is), behindLog(p, is))
}

// logsAnew asks that Commit begins the log anew first.
func logsAnew(t *testing.T, what string, p api.Pager, is []api.Image) {
	t.Helper()
	q := behindFresh(p)
	commits(t, what, p, is, append(freshSteps(p), logSteps(q, is)...), behindLog(q, is))
}

// isRefused asks that a call answered ErrPlanForm, and nothing beside it (R2).
func isRefused(t *testing.T, what string, steps []api.Step, p api.Pager, e api.Errno) {
	t.Helper()
	if e != api.ErrPlanForm || len(steps) != 0 || p.Head != (api.Head{}) || p.Next != 0 || p.Used != 0 || len(p.Text) != 0 {
		t.Errorf("%s: %d steps, %+v, error %d, not nothing and error %d", what, len(steps), p, e, api.ErrPlanForm)
	}
}

// refusesFresh asks that Fresh refuses p.
func refusesFresh(t *testing.T, what string, p api.Pager) {
	t.Helper()
	steps, next, e := Fresh(p)
	isRefused(t, what+": Fresh", steps, next, e)
}

// refusesCommit asks that Commit refuses.
func refusesCommit(t *testing.T, what string, p api.Pager, is []api.Image) {
	t.Helper()
	steps, next, e := Commit(p, is)
	isRefused(t, what+": Commit", steps, next, e)
}

// P8.1: Format's steps, and that none hangs on what was done to another answer (R4, R5).
func TestFormat(t *testing.T) {
	text := "cryo\x00\x00\x00\x00\x00\x00\x00\x01" + full(0, 20) +
		"\x9c\x8d\x86\x90\xff\xff\xff\xff\xff\xff\xff\xfe" + full(255, 20)
	want := []api.Step{{Write: api.Write{At: 0, Text: text}}, {Flush: true}}
	first, second := Format(), Format()
	isSteps(t, "Format", first, want)
	isSteps(t, "Format once more", second, want)
	_ = append(first, to(9, "more"), flushes)
	first[0], first[1] = to(5, "x"), to(6, "y")
	isSteps(t, "Format, another answer written over", second, want)
	isSteps(t, "Format behind another answer that was written over", Format(), want)
}

// P8.1: what Format makes of a disk opens, whatever was in the sectors that are no heads, in so far as they tell nothing.
func TestFormattedDiskOpens(t *testing.T) {
	opens(t, "a new disk, formatted", done(t, disk.New(), Format()), open.Blank())
	d := disk.New()
	for i := range d.Sectors {
		d.Sectors[i] = full('x', 64)
	}
	opens(t, "another disk, formatted", done(t, d, Format()), open.Blank())
}

// turned tells Blank's pager, with something turned.
func turned(turn func(p *api.Pager)) api.Pager {
	p := pager(0, 1, 1, 0)
	turn(&p)
	return p
}

// numbered tells pagers one of whose numbers is another one.
func numbered(numbers []int, turn func(p *api.Pager, n int)) []api.Pager {
	var list []api.Pager
	for _, n := range numbers {
		list = append(list, turned(func(p *api.Pager) { turn(p, n) }))
	}
	return list
}

// ofTexts tells pagers of so many empty texts each.
func ofTexts(counts ...int) []api.Pager {
	return numbered(counts, func(p *api.Pager, n int) { p.Text = make([]string, n) })
}

// ofLong tells pagers one of whose texts has so many bytes, at several pages.
func ofLong(lengths ...int) []api.Pager {
	var list []api.Pager
	for _, page := range []int{0, 1, 23, 46, 47} {
		list = append(list, numbered(lengths, func(p *api.Pager, n int) { p.Text[page] = full('x', n) })...)
	}
	return list
}

func setNumber(p *api.Pager, n int) { p.Head.Number = n }
func setStart(p *api.Pager, n int)  { p.Head.Start = n }
func setNext(p *api.Pager, n int)   { p.Next = n }
func setUsed(p *api.Pager, n int)   { p.Used = n }

// mayBe tells pagers that may be, by what of them is at its limit.
func mayBe() map[string][]api.Pager {
	return map[string][]api.Pager{
		"blank":       {open.Blank(), pager(0, 1, 1, 0)},
		"Number":      numbered([]int{0, 1, 2, limit, limit + 1, most - 1, most}, setNumber),
		"Start":       numbered([]int{1, 2, limit, limit + 1, most - 1, most}, setStart),
		"Next":        numbered([]int{1, 2, limit, limit + 1, most - 1, most}, setNext),
		"Used":        numbered([]int{0, 1, 199, 200}, setUsed),
		"how long":    ofLong(0, 1, 95, 96),
		"all at most": {{Head: api.Head{Number: most, Start: most}, Next: most, Used: 200, Text: slices.Repeat([]string{full(255, 96)}, 48)}},
		"a Start above Next, more used than there are numbers": {pager(3, 90, 20, 200)},
	}
}

// mayNotBe tells pagers that may not be, by what of them is beyond its limit.
func mayNotBe() map[string][]api.Pager {
	return map[string][]api.Pager{
		"nothing":        {{}, {Head: api.Head{Start: 1}, Next: 1}},
		"Number":         numbered([]int{-1, math.MinInt, most + 1, math.MaxInt}, setNumber),
		"Start":          numbered([]int{0, -1, math.MinInt, most + 1, math.MaxInt}, setStart),
		"Next":           numbered([]int{0, -1, math.MinInt, most + 1, math.MaxInt}, setNext),
		"Used":           numbered([]int{-1, math.MinInt, 201, math.MaxInt}, setUsed),
		"how many texts": ofTexts(0, 1, 47, 49, 96),
		"how long":       ofLong(97, 98, 192, 10000),
	}
}

// P8.2: which pagers may be.
func TestMay(t *testing.T) {
	for what, list := range mayBe() {
		for _, p := range list {
			if !May(p) {
				t.Errorf("%s: %+v may be", what, p)
			}
		}
	}
	for what, list := range mayNotBe() {
		for _, p := range list {
			if May(p) {
				t.Errorf("%s: %+v may not be", what, p)
			}
		}
	}
}

// P8.2, P8.3, R2, R6: pagers that may not be are refused, whatever the images are.
func TestPagersThatMayNotBe(t *testing.T) {
	for what, list := range mayNotBe() {
		for _, p := range list {
			refusesFresh(t, what, p)
			refusesCommit(t, what+", no images", p, nil)
			refusesCommit(t, what+", an image", p, []api.Image{image(0, "x")})
			refusesCommit(t, what+", an image that may not be either", p, []api.Image{image(48, "x")})
		}
	}
}

// P8.2, P8.3: pagers that may be, but are near the last number, are refused; those just ahead are not.
func TestNumbersAtTheirLimits(t *testing.T) {
	one := []api.Image{image(9, "nine")}
	for what, set := range map[string]func(p *api.Pager, n int){"Number": setNumber, "Next": setNext} {
		for _, p := range numbered([]int{limit + 1, limit + 2, most - 200, most - 1, most}, set) {
			if !May(p) {
				t.Errorf("%s above its limit: it may be", what)
			}
			refusesFresh(t, what+" above its limit", p)
			refusesCommit(t, what+" above its limit, no images", p, nil)
			refusesCommit(t, what+" above its limit, an image", p, one)
			refusesCommit(t, what+" above its limit, an image that may not be", p, []api.Image{image(-1, "")})
		}
		for _, p := range numbered([]int{limit, limit - 1}, set) {
			freshes(t, what+" at its limit", p)
			logs(t, what+" at its limit", p, one)
			commits(t, what+" at its limit, no images", p, nil, nil, p)
		}
	}
	both := pager(limit, most, limit, 200, image(5, "five"))
	freshes(t, "all at their limits", both)
	logsAnew(t, "all at their limits", both, one)
	logsAnew(t, "all at their limits, all pages", both, allPages(48))
	freshes(t, "Start above the limit of the others", pager(0, most, 1, 0))
	logs(t, "Start above the limit of the others", pager(0, most, 1, 0), one)
}

// allPages tells images of the first n pages, of many lengths.
func allPages(n int) []api.Image {
	var list []api.Image
	for page := range n {
		list = append(list, image(page, rising(byte(page), 2*page+1)))
	}
	return list
}

// wrong tells images that may not be.
func wrong() map[string][]api.Image {
	return map[string][]api.Image{
		"a page ahead of the first":        {image(-1, "x")},
		"a page far ahead":                 {image(math.MinInt, "x")},
		"a page behind the last":           {image(48, "x")},
		"a page far behind":                {image(math.MaxInt, "x")},
		"a page behind others":             {image(3, "x"), image(47, "y"), image(48, "z")},
		"a page ahead of others":           {image(-1, "x"), image(0, "y")},
		"pages that fall":                  {image(4, "x"), image(3, "y")},
		"pages that fall at the end":       {image(1, "x"), image(4, "y"), image(3, "z")},
		"a page twice":                     {image(4, "x"), image(4, "x")},
		"a page twice at the end":          {image(1, "w"), image(4, "x"), image(4, "y")},
		"page 0 twice":                     {image(0, ""), image(0, "")},
		"a text too long":                  {image(4, full('x', 97))},
		"a text far too long":              {image(4, full('x', 9600))},
		"a text too long, the first one":   {image(0, full('x', 97)), image(1, "y")},
		"a text too long, the last one":    {image(0, "x"), image(47, full('x', 97))},
		"one image too many":               append(allPages(48), image(48, "x")),
		"one too many, the last one twice": append(allPages(48), image(47, "x")),
		"twice as many":                    append(allPages(48), allPages(48)...),
	}
}

// P8.3, R2: images that may not be are refused, whether the log holds as many or not.
func TestImagesThatMayNotBe(t *testing.T) {
	for what, is := range wrong() {
		for _, p := range []api.Pager{open.Blank(), pager(3, 20, 40, 20, image(5, "five")), pager(4, 20, 220, 200), pager(limit, 1, limit, 199)} {
			refusesCommit(t, what, p, is)
		}
	}
	limits := []api.Image{image(0, full(0, 96)), image(47, full(255, 96))}
	logs(t, "images at their limits", open.Blank(), limits)
}

// P8.2: some of Fresh's steps and the pager behind it, written out.
func TestFreshWrittenOut(t *testing.T) {
	p := pager(6, 70, 100, 30, image(7, full('a', 24)+"bb"), image(47, "z"))
	steps, next, e := Fresh(p)
	if e != api.OK || len(steps) != 195 {
		t.Fatalf("Fresh: %d steps, error %d", len(steps), e)
	}
	for i, want := range map[int]api.Step{
		0:   to(202, "\x00\x00\x00\x01\x00\x00\x00\x00"+full(0, 24)+"\xff\xff\xff\xfe\xff\xff\xff\xff"+full(255, 24)),
		28:  to(230, "\x00\x00\x00\x01\x07\x00\x18\x00"+full('a', 24)+"\xff\xff\xff\xfe\xf8\xff\xe7\xff"+full(158, 24)),
		29:  to(231, "\x00\x00\x00\x01\x07\x01\x02\x00bb"+full(0, 22)+"\xff\xff\xff\xfe\xf8\xfe\xfd\xff\x9d\x9d"+full(255, 22)),
		31:  to(233, "\x00\x00\x00\x01\x07\x03\x00\x00"+full(0, 24)+"\xff\xff\xff\xfe\xf8\xfc\xff\xff"+full(255, 24)),
		188: to(390, "\x00\x00\x00\x01\x2f\x00\x01\x00z"+full(0, 23)+"\xff\xff\xff\xfe\xd0\xff\xfe\xff\x85"+full(255, 23)),
		191: to(393, "\x00\x00\x00\x01\x2f\x03\x00\x00"+full(0, 24)+"\xff\xff\xff\xfe\xd0\xfc\xff\xff"+full(255, 24)),
		192: {Flush: true},
		193: to(1, "cryo\x00\x00\x00\x07\x00\x00\x01\x2c"+full(0, 20)+"\x9c\x8d\x86\x90\xff\xff\xff\xf8\xff\xff\xfe\xd3"+full(255, 20)),
		194: {Flush: true},
	} {
		if steps[i] != want {
			t.Errorf("Fresh: step %d is %v, not %v", i, steps[i], want)
		}
	}
	isPager(t, "Fresh", next, pager(7, 300, 300, 0, image(7, full('a', 24)+"bb"), image(47, "z")))
}

// P8.2: pages' parts, of texts of each length that may be.
func TestFreshOfTexts(t *testing.T) {
	freshes(t, "no pages", open.Blank())
	for n := range 97 {
		p := open.Blank()
		for _, page := range []int{0, 9, 47} {
			p.Text[page] = rising(byte(page), n)
		}
		freshes(t, "pages of one length", p)
		if n < 48 {
			p := open.Blank()
			p.Text[n] = rising(1, 50)
			freshes(t, "one page", p)
		}
	}
	for _, n := range []int{0, 1, 23, 24, 25, 48, 95, 96} {
		p := open.Blank()
		for page := range p.Text {
			p.Text[page] = rising(byte(5*page), n)
		}
		freshes(t, "all pages of one length", p)
	}
	freshes(t, "all pages of many lengths", pager(0, 1, 1, 0, allPages(48)...))
	freshes(t, "bytes 0 and 255", pager(0, 1, 1, 0, image(3, full(0, 96)), image(4, full(255, 96)), image(5, full(0, 25))))
}

// P8.2: the head's sector, its Number odd and even, its Start, and the pager behind it, whatever was used of the log.
func TestFreshOfHeads(t *testing.T) {
	for _, number := range []int{0, 1, 2, 3, 4, 7, 254, 255, 256, 65535, limit - 1, limit} {
		for _, next := range []int{1, 2, 55, 56, 57, 65336, limit - 1, limit} {
			for _, used := range []int{0, 1, 77, 200} {
				p := pager(number, 1, next, used, image(5, "five"))
				p.Head.Start = max(1, next-used)
				steps, _, _ := Fresh(p)
				if len(steps) == 195 && steps[193].Write.At != (number+1)%2 {
					t.Errorf("the head of number %d: sector %d", number+1, steps[193].Write.At)
				}
				freshes(t, "heads", p)
			}
		}
	}
}

// P8.2: Fresh behind Fresh: the heads stand in the two sectors in turn, and numbers rise by LogSize.
func TestFreshBehindFresh(t *testing.T) {
	p := pager(0, 1, 31, 30, image(5, "five"))
	for n := range 6 {
		steps, next, e := Fresh(p)
		if e != api.OK || steps[193].Write.At != (n+1)%2 || next.Head.Number != n+1 || next.Head.Start != 31+200*(n+1) {
			t.Fatalf("Fresh %d: %v, head %v, error %d", n, steps[193], next.Head, e)
		}
		p = next
	}
}

// P8.3: of no images there are no steps, and the pager stays as it is, whatever is used of the log.
func TestCommitOfNoImages(t *testing.T) {
	for _, used := range []int{0, 1, 196, 199, 200} {
		p := pager(6, 70, 300, used, image(7, full('a', 96)), image(47, "z"))
		commits(t, "nil", p, nil, nil, p)
		commits(t, "an empty list", p, []api.Image{}, nil, p)
		commits(t, "an empty list with room", p, make([]api.Image, 0, 5), nil, p)
	}
}

// P8.3: a commit's steps and the pager behind it, written out.
func TestCommitWrittenOut(t *testing.T) {
	p := pager(6, 70, 100, 30, image(7, "old"), image(8, "eight"))
	want := []api.Step{
		to(32, "\x00\x00\x00\x64\x03\x00\x00\x00"+full(0, 24)+"\xff\xff\xff\x9b\xfc\xff\xff\xff"+full(255, 24)),
		to(33, "\x00\x00\x00\x65\x03\x01\x00\x00"+full(0, 24)+"\xff\xff\xff\x9a\xfc\xfe\xff\xff"+full(255, 24)),
		to(34, "\x00\x00\x00\x66\x03\x02\x00\x00"+full(0, 24)+"\xff\xff\xff\x99\xfc\xfd\xff\xff"+full(255, 24)),
		to(35, "\x00\x00\x00\x67\x03\x03\x00\x00"+full(0, 24)+"\xff\xff\xff\x98\xfc\xfc\xff\xff"+full(255, 24)),
		to(36, "\x00\x00\x00\x68\x07\x00\x18\x00"+full('a', 24)+"\xff\xff\xff\x97\xf8\xff\xe7\xff"+full(158, 24)),
		to(37, "\x00\x00\x00\x69\x07\x01\x02\x00bb"+full(0, 22)+"\xff\xff\xff\x96\xf8\xfe\xfd\xff\x9d\x9d"+full(255, 22)),
		to(38, "\x00\x00\x00\x6a\x07\x02\x00\x00"+full(0, 24)+"\xff\xff\xff\x95\xf8\xfd\xff\xff"+full(255, 24)),
		to(39, "\x00\x00\x00\x6b\x07\x03\x00\x00"+full(0, 24)+"\xff\xff\xff\x94\xf8\xfc\xff\xff"+full(255, 24)),
		to(40, "\x00\x00\x00\x6c\x00\x04\x00\x00"+full(0, 24)+"\xff\xff\xff\x93\xff\xfb\xff\xff"+full(255, 24)),
		{Flush: true},
	}
	text := full('a', 24) + "bb"
	commits(t, "two images", p, []api.Image{image(3, ""), image(7, text)}, want, pager(6, 70, 109, 39, image(7, text), image(8, "eight")))
}

// P8.3: commits of one image, of several, of all pages, of texts of many lengths, where the log holds them.
func TestCommitThatTheLogHolds(t *testing.T) {
	blank := open.Blank()
	some := pager(5, 40, 57, 17, image(0, "zero"), image(9, full('n', 96)), image(47, "last"))
	for page := range 48 {
		logs(t, "one image", blank, []api.Image{image(page, "x")})
		logs(t, "one image over others", some, []api.Image{image(page, rising(7, 2*page))})
		logs(t, "an empty image", some, []api.Image{image(page, "")})
	}
	for n := range 97 {
		logs(t, "an image of each length", some, []api.Image{image(9, rising(3, n))})
	}
	for n := 1; n <= 45; n++ {
		logs(t, "images of the first pages", some, allPages(n))
	}
	for _, n := range []int{46, 47, 48} {
		logs(t, "images of all pages", blank, allPages(n))
	}
	logs(t, "images of some pages", some, []api.Image{image(0, ""), image(9, "9"), image(20, full('x', 25)), image(47, full('y', 95))})
	logs(t, "images that are what is there", some, []api.Image{image(0, "zero"), image(47, "last")})
}

// P8.3: where Used and the records are just LogSize, and one more; of each number of images.
func TestCommitWhereTheLogIsFull(t *testing.T) {
	for n := 1; n <= 48; n++ {
		is := allPages(n)
		records := 4*n + 1
		for _, number := range []int{4, 5} {
			just := pager(number, 90, 500, 200-records, image(3, "three"), image(47, "last"))
			logs(t, "just LogSize", just, is)
			less := pager(number, 90, 500, max(0, 199-records), image(3, "three"))
			logs(t, "one less", less, is)
			more := pager(number, 90, 500, 201-records, image(3, "three"), image(47, "last"))
			logsAnew(t, "one more", more, is)
			logsAnew(t, "all used", pager(number, 90, 500, 200, image(3, full('x', 96))), is)
		}
	}
	p := pager(4, 90, 120, 196, image(7, "seven"))
	steps, next, e := Commit(p, []api.Image{image(7, "y")})
	if e != api.OK || len(steps) != 201 || steps[195] != to(2, part(320, 7, 0, "y")) || steps[199] != to(6, part(324, 0, 4, "")) {
		t.Errorf("a commit behind Fresh: %d steps, error %d", len(steps), e)
	}
	isPager(t, "a commit behind Fresh", next, pager(5, 320, 325, 5, image(7, "y")))
	if len(steps) == 201 && steps[28] != to(230, part(1, 7, 0, "seven")) {
		t.Errorf("a commit behind Fresh brings home %v, not the text ahead of it", steps[28])
	}
}

// done tells the disk behind steps; none of them is refused.
func done(t *testing.T, d api.Disk, steps []api.Step) api.Disk {
	t.Helper()
	for i, s := range steps {
		next, e := disk.Do(d, s)
		if e != api.OK {
			t.Fatalf("step %d: disk.Do: error %d", i, e)
		}
		d = next
	}
	return d
}

// opens asks that layer 7 tells the pager want of d.
func opens(t *testing.T, what string, d api.Disk, want api.Pager) {
	t.Helper()
	p, e := open.Open(d)
	if e != api.OK {
		t.Errorf("%s: Open: error %d", what, e)
		return
	}
	isPager(t, what+": Open", p, want)
}

// committed tells the disk and the pager behind a commit, which opens as it was told.
func committed(t *testing.T, d api.Disk, p api.Pager, is []api.Image) (api.Disk, api.Pager) {
	t.Helper()
	steps, next, e := Commit(p, is)
	if e != api.OK {
		t.Fatalf("Commit: error %d", e)
	}
	d = done(t, d, steps)
	opens(t, "behind a commit", d, next)
	return d, next
}

// refreshed tells the disk and the pager behind Fresh, which opens as it was told.
func refreshed(t *testing.T, d api.Disk, p api.Pager) (api.Disk, api.Pager) {
	t.Helper()
	steps, next, e := Fresh(p)
	if e != api.OK {
		t.Fatalf("Fresh: error %d", e)
	}
	d = done(t, d, steps)
	opens(t, "behind Fresh", d, next)
	return d, next
}

// formatted tells a formatted disk and its pager.
func formatted(t *testing.T) (api.Disk, api.Pager) {
	t.Helper()
	return done(t, disk.New(), Format()), open.Blank()
}

// P8.4: behind all steps of commits and of Fresh the disk opens to the pager that was told; pages are what was put last.
func TestStepsOpenToWhatWasTold(t *testing.T) {
	d, p := formatted(t)
	want := make([]string, 48)
	anew := 0
	for n := range 40 {
		var is []api.Image
		for page := range 48 {
			if (page*7+n*5)%(3+n%9) == 0 {
				is = append(is, image(page, rising(byte(n*16+page), (page*11+n*13)%97)))
			}
		}
		want = over(want, is)
		number := p.Head.Number
		d, p = committed(t, d, p, is)
		anew += p.Head.Number - number
		if n%11 == 10 {
			d, p = refreshed(t, d, p)
		}
		if !slices.Equal(p.Text, want) {
			t.Fatalf("commit %d: other texts than were put", n)
		}
	}
	if anew == 0 {
		t.Errorf("no commit began the log anew")
	}
}

// keeps tells texts by which of n writes some last, in many ways; salt turns those by chance.
func keeps(n int, salt int) []string {
	none, all := make([]byte, n), make([]byte, n)
	odd, even := make([]byte, n), make([]byte, n)
	front, chance := make([]byte, n), make([]byte, n)
	state := uint64(salt)*2654435761 + 12345
	for i := range n {
		all[i] = 1
		odd[i], even[i] = byte(i%2), byte(1-i%2)
		front[i] = byte((2*n - 2*i) / max(1, n) % 256)
		state = state*6364136223846793005 + 1442695040888963407
		chance[i] = byte(state >> 40)
	}
	list := []string{"", string(none), string(all), string(odd), string(even), string(front), string(chance)}
	for _, i := range []int{0, n / 2, n - 1} {
		if i >= 0 && i < n {
			one, other := slices.Clone(none), slices.Clone(all)
			one[i], other[i] = 255, 0
			list = append(list, string(one), string(other))
		}
	}
	return list
}

// tears tells which of n writes may be torn.
func tears(n int, salt int) []int {
	return []int{-1, 0, n - 1, n / 2, salt % max(1, n)}
}

// places are where a sector may be torn.
var places = []int{0, 1, 4, 7, 8, 16, 31, 32, 33, 36, 40, 63, 64}

// eachCrash goes through each number of steps ahead, and tells the disks that crashes behind them leave.
func eachCrash(t *testing.T, d api.Disk, steps []api.Step, tell func(n int, crashed api.Disk)) {
	t.Helper()
	for n := range len(steps) + 1 {
		writes := len(d.Cache)
		for k, keep := range keeps(writes, n) {
			for i, torn := range tears(writes, n+k) {
				// Of many steps a third of the ways is enough: each way comes again behind other steps.
				if len(steps) > 60 && i%3 != (n+k)%3 {
					continue
				}
				crashed, e := disk.Crash(d, keep, torn, places[(n+k+torn+1)%len(places)])
				if e != api.OK {
					t.Fatalf("disk.Crash: error %d", e)
				}
				tell(n, crashed)
			}
		}
		if n < len(steps) {
			d = done(t, d, steps[n:n+1])
		}
	}
}

// stand asks whether all writes of these steps are what the sectors hold.
func stand(d api.Disk, steps []api.Step) bool {
	return !slices.ContainsFunc(steps, func(s api.Step) bool { return !s.Flush && d.Sectors[s.Write.At] != s.Write.Text })
}

// crashesOfFresh asks that behind each crash within Fresh the disk opens to p's texts, with the old head or the new one.
func crashesOfFresh(t *testing.T, what string, d api.Disk, p api.Pager) {
	t.Helper()
	steps, next, e := Fresh(p)
	if e != api.OK {
		t.Fatalf("%s: Fresh: error %d", what, e)
	}
	eachCrash(t, d, steps, func(n int, crashed api.Disk) {
		want := api.Pager{Head: p.Head, Next: p.Next, Used: p.Used, Text: p.Text}
		if stand(crashed, steps[193:194]) {
			want = next
		}
		got, e := open.Open(crashed)
		if e != api.OK || got.Head != want.Head || got.Used != want.Used || got.Next != want.Next || !slices.Equal(got.Text, p.Text) {
			t.Fatalf("%s: crashed behind %d steps of Fresh: %+v, error %d; not %+v", what, n, got, e, want)
		}
	})
}

// crashesOfCommit asks that behind each crash within a commit the disk opens to the texts ahead of it, or behind it.
func crashesOfCommit(t *testing.T, what string, d api.Disk, p api.Pager, is []api.Image) {
	t.Helper()
	steps, next, e := Commit(p, is)
	if e != api.OK {
		t.Fatalf("%s: Commit: error %d", what, e)
	}
	records := steps[len(steps)-4*len(is)-2:]
	lost, kept := 0, 0
	eachCrash(t, d, steps, func(n int, crashed api.Disk) {
		want := p.Text
		if stand(crashed, records) {
			want = next.Text
			kept++
		} else {
			lost++
		}
		got, e := open.Open(crashed)
		if e != api.OK || !slices.Equal(got.Text, want) {
			t.Fatalf("%s: crashed behind %d of %d steps of a commit: %+v, error %d; texts not %q", what, n, len(steps), got, e, want)
		}
		if n == len(steps) && !same(got, next) {
			t.Fatalf("%s: crashed behind all steps of a commit: %+v, not %+v", what, got, next)
		}
	})
	if lost == 0 || kept == 0 {
		t.Errorf("%s: %d crashes lost the images, %d kept them", what, lost, kept)
	}
}

// several are images that a commit puts over others.
var several = []api.Image{image(0, "zero"), image(5, rising(9, 60)), image(47, "")}

// P8.4: crashes within Fresh.
func TestCrashesOfFresh(t *testing.T) {
	d, p := formatted(t)
	crashesOfFresh(t, "a formatted disk", d, p)
	d, p = committed(t, d, p, allPages(20))
	d, p = committed(t, d, p, several)
	crashesOfFresh(t, "behind commits", d, p)
	d, p = refreshed(t, d, p)
	crashesOfFresh(t, "behind Fresh", d, p)
	d, p = committed(t, d, p, allPages(48))
	crashesOfFresh(t, "all pages in the log", d, p)
}

// P8.4: crashes within a commit that the log holds.
func TestCrashesOfCommit(t *testing.T) {
	d, p := formatted(t)
	crashesOfCommit(t, "a formatted disk", d, p, several)
	d, p = committed(t, d, p, allPages(30))
	crashesOfCommit(t, "behind a commit", d, p, several)
	crashesOfCommit(t, "behind a commit, one image", d, p, []api.Image{image(9, "new")})
	d, p = refreshed(t, d, p)
	crashesOfCommit(t, "behind Fresh, over an older log", d, p, several)
	d, p = committed(t, d, p, []api.Image{image(1, "one"), image(2, "two")})
	crashesOfCommit(t, "behind Fresh and a commit, over an older log", d, p, allPages(6))
}

// P8.4: crashes within a commit that begins the log anew.
func TestCrashesOfCommitThatBeginsAnew(t *testing.T) {
	d, p := formatted(t)
	d, p = committed(t, d, p, allPages(48))
	crashesOfCommit(t, "a log that was never begun anew", d, p, several)
	d, p = committed(t, d, p, several)
	if p.Used != 13 || p.Head.Number != 1 {
		t.Fatalf("the log was not begun anew: %+v", p)
	}
	d, p = committed(t, d, p, allPages(46))
	crashesOfCommit(t, "a log that was begun anew", d, p, several)
}

// recovered tells the disk and the pager behind what follows a crash: Open, and Fresh, which crashes some times too.
func recovered(t *testing.T, d api.Disk, want []string, at int, salt int) (api.Disk, api.Pager) {
	t.Helper()
	p, e := open.Open(d)
	if e != api.OK || !slices.Equal(p.Text, want) {
		t.Fatalf("behind a crash: %+v, error %d; texts not %q", p, e, want)
	}
	for n := range 2 {
		steps, _, e := Fresh(p)
		if e != api.OK {
			t.Fatalf("Fresh: error %d", e)
		}
		stopped := done(t, d, steps[:(salt*(37+n))%196])
		list := keeps(len(stopped.Cache), salt+n)
		d, _ = disk.Crash(stopped, list[(salt+n)%len(list)], salt%(len(stopped.Cache)+1)-1, at)
		p, e = open.Open(d)
		if e != api.OK || !slices.Equal(p.Text, want) {
			t.Fatalf("behind a crash within Fresh: %+v, error %d; texts not %q", p, e, want)
		}
	}
	return refreshed(t, d, p)
}

// P8.4: crashes behind crashes, all torn at one place: each is recovered from, and what they left in the log is never read.
func TestCrashesBehindCrashes(t *testing.T) {
	for k, at := range []int{0, 5, 32, 37, 64} {
		d, p := formatted(t)
		for n := range 12 {
			salt := 5*n + k
			is := []api.Image{image(n%7, rising(byte(salt), salt%97)), image(20+n, "x"), image(47, rising(byte(n), 50))}[:1+salt%3]
			steps, next, e := Commit(p, is)
			if e != api.OK {
				t.Fatalf("Commit: error %d", e)
			}
			stopped := done(t, d, steps[:len(steps)-salt%3])
			list := keeps(len(stopped.Cache), salt)
			d, _ = disk.Crash(stopped, list[salt%len(list)], salt%(len(stopped.Cache)+1)-1, at)
			want := p.Text
			if stand(d, steps[len(steps)-4*len(is)-2:]) {
				want = next.Text
			}
			d, p = recovered(t, d, want, at, salt)
		}
	}
}

// P8.4: records that a crash left in the log, all but one of a commit, are nothing behind Fresh, whatever is committed over them.
func TestWhatACrashLeftIsNothing(t *testing.T) {
	for lost := range 13 {
		d, p := formatted(t)
		steps, _, _ := Commit(p, several)
		stopped := done(t, d, steps[:13])
		keep := []byte(full(1, 13))
		keep[lost] = 0
		d, _ = disk.Crash(stopped, string(keep), -1, 0)
		opens(t, "all but one record lasted", d, p)
		d, p = refreshed(t, d, p)
		d, p = committed(t, d, p, []api.Image{image(1, "one")})
		d, p = committed(t, d, p, []api.Image{image(1, "two")})
		committed(t, d, p, []api.Image{image(2, "three")})
	}
}

// given is what R4 asks of: a pager and images, in lists with spare room, by whether Commit begins the log anew.
func given(used int) (api.Pager, []api.Image) {
	p := pager(3, 20, 20+used, used, image(0, rising(1, 30)), image(5, "five"), image(9, full('n', 96)))
	p.Text = append(p.Text, "spare", "room")[:48]
	is := append(slices.Clone(several), image(99, "spare"), image(-9, "room"))[:3]
	return p, is
}

// R4: no call changes what it is given, its spare room neither.
func TestNothingGivenIsChanged(t *testing.T) {
	for _, used := range []int{0, 187, 188, 200} {
		p, is := given(used)
		wantTexts, wantImages := slices.Clone(p.Text[:50]), slices.Clone(is[:5])
		calls := map[string]func(){
			"May":                   func() { May(p) },
			"Fresh":                 func() { Fresh(p) },
			"Commit":                func() { Commit(p, is) },
			"Commit of no images":   func() { Commit(p, is[:0]) },
			"Commit of wrong ones":  func() { Commit(p, is[:4]) },
			"Fresh, refused":        func() { Fresh(api.Pager{Text: p.Text}) },
			"Commit, refused":       func() { Commit(api.Pager{Text: p.Text}, is) },
			"Commit, far too many":  func() { Commit(api.Pager{Head: p.Head, Next: p.Next, Used: used, Text: p.Text[:50]}, is) },
			"Commit of one of them": func() { Commit(p, is[:1]) },
		}
		for what, call := range calls {
			call()
			if !slices.Equal(p.Text[:50], wantTexts) || !slices.Equal(is[:5], wantImages) {
				t.Fatalf("%s changed what it was given", what)
			}
		}
	}
}

// overlap asks whether two texts have a byte of memory in common.
func overlap(a string, b string) bool {
	if a == "" || b == "" {
		return false
	}
	x := uintptr(unsafe.Pointer(unsafe.StringData(a)))
	y := uintptr(unsafe.Pointer(unsafe.StringData(b)))
	return x < y+uintptr(len(b)) && y < x+uintptr(len(a))
}

// apart asks that no text of a lies in memory of one of b.
func apart(t *testing.T, what string, a []string, b []string) {
	t.Helper()
	for _, s := range a {
		if slices.ContainsFunc(b, func(other string) bool { return overlap(s, other) }) {
			t.Errorf("%s: %q lies in memory that is not its own", what, s)
			return
		}
	}
}

// textsOf tells the texts that steps write.
func textsOf(steps []api.Step) []string {
	var list []string
	for _, s := range steps {
		list = append(list, s.Write.Text)
	}
	return list
}

// overwrite writes over an answer and the room behind it.
func overwrite(steps []api.Step, p api.Pager) {
	_ = append(steps, to(1, "more"), to(2, "more"))
	_ = append(p.Text, "more", "more")
	for i := range steps {
		steps[i] = to(9, "written over")
	}
	for i := range p.Text {
		p.Text[i] = "written over"
	}
}

// R4: answers share no memory with arguments, with one another, nor do two lists of one answer.
func TestAnswersShareNoMemory(t *testing.T) {
	for _, used := range []int{0, 200} {
		p, is := given(used)
		arguments := slices.Clone(p.Text)
		for _, i := range is {
			arguments = append(arguments, i.Text)
		}
		for what, call := range map[string]func() ([]api.Step, api.Pager, api.Errno){
			"Fresh":               func() ([]api.Step, api.Pager, api.Errno) { return Fresh(p) },
			"Commit":              func() ([]api.Step, api.Pager, api.Errno) { return Commit(p, is) },
			"Commit of no images": func() ([]api.Step, api.Pager, api.Errno) { return Commit(p, nil) },
		} {
			steps, next, _ := call()
			others, other, _ := call()
			wantSteps, want := slices.Clone(others), api.Pager{Head: other.Head, Next: other.Next, Used: other.Used, Text: slices.Clone(other.Text)}
			apart(t, what+": steps and arguments", textsOf(steps), arguments)
			apart(t, what+": texts and arguments", next.Text, arguments)
			apart(t, what+": steps and texts", textsOf(steps), next.Text)
			apart(t, what+": steps of two answers", textsOf(steps), textsOf(others))
			apart(t, what+": texts of two answers", next.Text, other.Text)
			overwrite(steps, next)
			isSteps(t, what+", another answer written over", others, wantSteps)
			isPager(t, what+", another answer written over", other, want)
			again, behind, _ := call()
			isSteps(t, what+" behind an answer that was written over", again, wantSteps)
			isPager(t, what+" behind an answer that was written over", behind, want)
		}
	}
}

// R4: what was answered stays, whatever is done to what was given.
func TestAnswersKeepNothing(t *testing.T) {
	for _, used := range []int{0, 200} {
		p, is := given(used)
		steps, fresh, _ := Fresh(p)
		more, next, _ := Commit(p, is)
		none, same, _ := Commit(p, nil)
		for i := range p.Text {
			p.Text[i] = "written over"
		}
		for i := range is {
			is[i] = image(7, "written over")
		}
		was, images := given(used)
		isSteps(t, "Fresh", steps, freshSteps(was))
		isPager(t, "Fresh", fresh, behindFresh(was))
		isSteps(t, "Commit of none", none, nil)
		isPager(t, "Commit of none", same, was)
		want, behind, _ := Commit(was, images)
		isSteps(t, "Commit", more, want)
		isPager(t, "Commit", next, behind)
	}
}

// R5: the same arguments, the same answers, whatever was asked in between, also from several goroutines at one time.
func TestAnswersHangOnArgumentsAlone(t *testing.T) {
	p, is := given(100)
	for range 3 {
		logs(t, "again and again", p, is)
		freshes(t, "again and again", p)
		refusesCommit(t, "in between", api.Pager{}, is)
		refusesCommit(t, "in between", p, []api.Image{image(48, "")})
		refusesFresh(t, "in between", pager(0, 1, limit+1, 0))
		logsAnew(t, "in between", pager(3, 20, 220, 200), is)
		commits(t, "in between", p, nil, nil, p)
	}
	ends := make(chan bool)
	for range 8 {
		go func() {
			steps, next, e := Commit(p, is)
			home, fresh, f := Fresh(p)
			ends <- e == api.OK && f == api.OK && May(p) && slices.Equal(steps, logSteps(p, is)) && same(next, behindLog(p, is)) &&
				slices.Equal(home, freshSteps(p)) && same(fresh, behindFresh(p)) && len(Format()) == 2
		}()
	}
	for range 8 {
		if !<-ends {
			t.Errorf("another answer at one time with others")
		}
	}
}
