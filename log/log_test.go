package log

import (
	"math"
	"reflect"
	"slices"
	"strings"
	"testing"
	"unsafe"

	"cryostat/api"
	"cryostat/record"
)

// text tells n bytes that rise from first on.
func text(n int, first byte) string {
	b := make([]byte, n)
	for i := range b {
		b[i] = first + byte(i)
	}
	return string(b)
}

// pages tells an image of each page from 0 below n.
func pages(n int) []api.Image {
	is := make([]api.Image, n)
	for i := range is {
		is[i] = api.Image{Page: i, Text: text(i*2, byte(i))}
	}
	return is
}

// mustMake tells Make's records of images that may be.
func mustMake(t *testing.T, is []api.Image, seq int) []api.Record {
	t.Helper()
	rs, e := Make(is, seq)
	if e != api.OK || len(rs) != 4*len(is)+1 {
		t.Fatalf("Make(%v, %d): %d records, error %d", is, seq, len(rs), e)
	}
	return rs
}

// texts tells the sectors' bytes of records.
func texts(t *testing.T, rs []api.Record) []string {
	t.Helper()
	var ss []string
	for _, r := range rs {
		s, e := record.Put(r)
		if e != api.OK {
			t.Fatalf("record.Put(%+v): error %d", r, e)
		}
		ss = append(ss, s)
	}
	return ss
}

// alike asks whether two rows of transactions hold the same; an empty list and nil are one.
func alike(a [][]api.Image, b [][]api.Image) bool {
	return slices.EqualFunc(a, b, func(x []api.Image, y []api.Image) bool { return slices.Equal(x, y) })
}

// makeRefused asks that Make refuses, and tells nothing beside (R2).
func makeRefused(t *testing.T, is []api.Image, seq int) {
	t.Helper()
	if rs, e := Make(is, seq); len(rs) != 0 || e != api.ErrLogForm {
		t.Errorf("Make(%v, %d): %v, error %d, not nothing and ErrLogForm", is, seq, rs, e)
	}
}

// scanRefused asks that Scan refuses, and tells nothing beside (R2).
func scanRefused(t *testing.T, rs []string, seq int) {
	t.Helper()
	if got, next, used, e := Scan(rs, seq); len(got) != 0 || next != 0 || used != 0 || e != api.ErrLogForm {
		t.Errorf("Scan of %d texts, %d: %v, %d, %d, error %d, not nothing and ErrLogForm", len(rs), seq, got, next, used, e)
	}
}

// scans asks that Scan tells these transactions, of so many records.
func scans(t *testing.T, rs []string, seq int, want [][]api.Image, records int) {
	t.Helper()
	got, next, used, e := Scan(rs, seq)
	if !alike(got, want) || next != seq+records || used != records || e != api.OK {
		t.Fatalf("Scan(%q, %d): %v, %d, %d, error %d, not %v, %d, %d", rs, seq, got, next, used, e, want, seq+records, records)
	}
}

// told reckons what Scan must tell by Make alone: up to each commit, of whatever images four records in a row may be, those that Make tells so.
func told(rs []string, seq int) ([][]api.Image, int) {
	var done [][]api.Image
	var open []api.Record
	used := 0
	for _, s := range rs {
		x, e := record.Get(s)
		if e != api.OK {
			break
		}
		open = append(open, x)
		if x.Part != 4 {
			continue
		}
		var is []api.Image
		for four := range slices.Chunk(open[:len(open)-1], 4) {
			i := api.Image{Page: four[0].Page}
			for _, part := range four {
				i.Text += part.Data
			}
			is = append(is, i)
		}
		if made, e := Make(is, seq+used); e != api.OK || !slices.Equal(made, open) {
			break
		}
		done, used, open = append(done, is), used+len(open), nil
	}
	return done, used
}

// scansAsTold asks that Scan tells what told does.
func scansAsTold(t *testing.T, rs []string, seq int) {
	t.Helper()
	want, used := told(rs, seq)
	scans(t, rs, seq, want, used)
}

// P4.1: records that are written out by hand.
func TestMakeByHand(t *testing.T) {
	a, b, c, d := text(24, 0), text(24, 24), text(24, 48), text(24, 72)
	for _, x := range []struct {
		is   []api.Image
		seq  int
		want []api.Record
	}{
		{nil, 1, []api.Record{{Seq: 1, Part: 4}}},
		{[]api.Image{}, 9, []api.Record{{Seq: 9, Part: 4}}},
		{[]api.Image{{}}, 1, []api.Record{{Seq: 1}, {Seq: 2, Part: 1}, {Seq: 3, Part: 2}, {Seq: 4, Part: 3}, {Seq: 5, Part: 4}}},
		{[]api.Image{{Page: 7, Text: "x"}}, 5, []api.Record{
			{Seq: 5, Page: 7, Data: "x"}, {Seq: 6, Page: 7, Part: 1}, {Seq: 7, Page: 7, Part: 2}, {Seq: 8, Page: 7, Part: 3}, {Seq: 9, Part: 4}}},
		{[]api.Image{{Page: 7, Text: a}}, 5, []api.Record{
			{Seq: 5, Page: 7, Data: a}, {Seq: 6, Page: 7, Part: 1}, {Seq: 7, Page: 7, Part: 2}, {Seq: 8, Page: 7, Part: 3}, {Seq: 9, Part: 4}}},
		{[]api.Image{{Page: 7, Text: a + "y"}}, 5, []api.Record{
			{Seq: 5, Page: 7, Data: a}, {Seq: 6, Page: 7, Part: 1, Data: "y"}, {Seq: 7, Page: 7, Part: 2}, {Seq: 8, Page: 7, Part: 3}, {Seq: 9, Part: 4}}},
		{[]api.Image{{Page: 7, Text: a + b + c + d[:23]}}, 5, []api.Record{
			{Seq: 5, Page: 7, Data: a}, {Seq: 6, Page: 7, Part: 1, Data: b}, {Seq: 7, Page: 7, Part: 2, Data: c}, {Seq: 8, Page: 7, Part: 3, Data: d[:23]}, {Seq: 9, Part: 4}}},
		{[]api.Image{{Page: 0, Text: a + b + c + d}, {Page: 3}, {Page: 47, Text: c + "z"}}, 100, []api.Record{
			{Seq: 100, Data: a}, {Seq: 101, Part: 1, Data: b}, {Seq: 102, Part: 2, Data: c}, {Seq: 103, Part: 3, Data: d},
			{Seq: 104, Page: 3}, {Seq: 105, Page: 3, Part: 1}, {Seq: 106, Page: 3, Part: 2}, {Seq: 107, Page: 3, Part: 3},
			{Seq: 108, Page: 47, Data: c}, {Seq: 109, Page: 47, Part: 1, Data: "z"}, {Seq: 110, Page: 47, Part: 2}, {Seq: 111, Page: 47, Part: 3},
			{Seq: 112, Part: 4}}},
	} {
		if got, e := Make(x.is, x.seq); !slices.Equal(got, x.want) || e != api.OK {
			t.Errorf("Make(%v, %d): %v, error %d, not %v", x.is, x.seq, got, e, x.want)
		}
	}
}

// P4.1: a text of each length, also of bytes 0: all parts but the last ones are full.
func TestMakeOfEachLength(t *testing.T) {
	for n := range 97 {
		for _, s := range []string{text(n, 5), strings.Repeat("\x00", n)} {
			rs := mustMake(t, []api.Image{{Page: 2, Text: s}}, 11)
			for part := range 4 {
				data := s[min(n, 24*part):min(n, 24*part+24)]
				want := api.Record{Seq: 11 + part, Page: 2, Part: part, Data: data}
				if rs[part] != want {
					t.Errorf("Make of %d bytes: part %d is %+v, not %+v", n, part, rs[part], want)
				}
			}
		}
	}
}

// P4.1: of each count of images, up to MaxPages: their Pages and Parts in their row, numbers from seq on, a commit last, all of them records that may be.
func TestMakeOfEachCount(t *testing.T) {
	for n := range 49 {
		is := pages(n)
		rs := mustMake(t, is, 1000)
		for k, r := range rs {
			if r.Seq != 1000+k || !record.May(r) {
				t.Errorf("Make of %d images: record %d is %+v", n, k, r)
			}
			if k == 4*n && r != (api.Record{Seq: 1000 + 4*n, Part: 4}) || k < 4*n && (r.Page != k/4 || r.Part != k%4) {
				t.Errorf("Make of %d images: record %d is %+v", n, k, r)
			}
		}
	}
}

// P4.1: pages' limits, one less and one more, at each place of the row.
func TestMakeRefusesOtherPages(t *testing.T) {
	for _, is := range [][]api.Image{
		{{Page: 0}}, {{Page: 1}}, {{Page: 46}}, {{Page: 47}}, {{Page: 0}, {Page: 47}}, {{Page: 46}, {Page: 47}}, {{Page: 0}, {Page: 1}, {Page: 2}},
	} {
		mustMake(t, is, 1)
	}
	for _, is := range [][]api.Image{
		{{Page: -1}}, {{Page: 48}}, {{Page: math.MinInt}}, {{Page: math.MaxInt}}, {{Page: 256}}, {{Page: 1 << 32}},
		{{Page: -1}, {Page: 0}}, {{Page: -2}, {Page: -1}, {Page: 3}}, {{Page: 5}, {Page: 48}}, {{Page: 46}, {Page: 47}, {Page: 48}},
		{{Page: 0}, {Page: 0}}, {{Page: 47}, {Page: 47}}, {{Page: 3}, {Page: 2}}, {{Page: 47}, {Page: 0}},
		{{Page: 1}, {Page: 2}, {Page: 2}}, {{Page: 1}, {Page: 1}, {Page: 2}}, {{Page: 1}, {Page: 3}, {Page: 2}}, {{Page: 2}, {Page: 1}, {Page: 3}},
		{{Page: 4}, {Page: -1}, {Page: 5}},
		append(pages(48), api.Image{Page: 48}), append(pages(48), api.Image{Page: 47}), make([]api.Image, 2), make([]api.Image, 49), make([]api.Image, 1000),
	} {
		makeRefused(t, is, 1)
	}
}

// P4.1: the limit of Texts, one less and one more, at each place of the row.
func TestMakeRefusesLongTexts(t *testing.T) {
	for place := range 3 {
		for _, n := range []int{95, 96, 97, 98, 120, 256, 1000} {
			is := []api.Image{{Page: 4, Text: "a"}, {Page: 8, Text: "b"}, {Page: 20, Text: "c"}}
			is[place].Text = text(n, 1)
			if n <= 96 {
				mustMake(t, is, 1)
			} else {
				makeRefused(t, is, 1)
			}
		}
	}
}

// P4.1: seq, and the last number that is told, from 1 to MaxSeq, one less and one more.
func TestMakeRefusesOtherNumbers(t *testing.T) {
	for _, n := range []int{0, 1, 2, 48} {
		is := pages(n)
		greatest := 2147483647 - 4*n
		for _, seq := range []int{1, 2, greatest - 1, greatest} {
			rs := mustMake(t, is, seq)
			if rs[0].Seq != seq || rs[4*n].Seq != seq+4*n {
				t.Errorf("Make of %d images: from %d to %d, not from %d to %d", n, rs[0].Seq, rs[4*n].Seq, seq, seq+4*n)
			}
		}
		for _, seq := range []int{0, -1, -4 * n, 1 - 4*n, -2147483647, math.MinInt, greatest + 1, 2147483648, 1<<32 + 1, math.MaxInt - 4*n, math.MaxInt - 4*n + 1, math.MaxInt} {
			if seq == 1 {
				continue
			}
			makeRefused(t, is, seq)
		}
	}
}

// P4.2: sectors' bytes that are written out by hand.
func TestScanByHand(t *testing.T) {
	zeros := strings.Repeat("\x00", 24)
	data := text(24, 'a')
	rs := []string{
		"\x00\x00\x01\x00\x05\x00\x18\x00" + data,
		"\x00\x00\x01\x01\x05\x01\x03\x00xyz" + zeros[:21],
		"\x00\x00\x01\x02\x05\x02\x00\x00" + zeros,
		"\x00\x00\x01\x03\x05\x03\x00\x00" + zeros,
		"\x00\x00\x01\x04\x00\x04\x00\x00" + zeros,
		"\x00\x00\x01\x05\x00\x04\x00\x00" + zeros,
		"\x00\x00\x01\x06\x02\x00\x00\x00" + zeros,
		"\x00\x00\x01\x07\x02\x01\x00\x00" + zeros,
		"\x00\x00\x01\x08\x02\x02\x00\x00" + zeros,
		"\x00\x00\x01\x09\x02\x03\x00\x00" + zeros,
		"\x00\x00\x01\x0a\x2f\x00\x01\x00\x00" + zeros[:23],
		"\x00\x00\x01\x0b\x2f\x01\x00\x00" + zeros,
		"\x00\x00\x01\x0c\x2f\x02\x00\x00" + zeros,
		"\x00\x00\x01\x0d\x2f\x03\x00\x00" + zeros,
		"\x00\x00\x01\x0e\x00\x04\x00\x00" + zeros,
	}
	want := [][]api.Image{{{Page: 5, Text: data + "xyz"}}, nil, {{Page: 2}, {Page: 47, Text: "\x00"}}}
	scans(t, rs, 256, want, 15)
	for n := range 15 {
		scans(t, rs[:n], 256, want[:min(n/5, 1)+min(n/6, 1)], []int{0, 5, 6}[min(n/5, 1)+min(n/6, 1)])
	}
	scans(t, nil, 256, nil, 0)
	scans(t, []string{}, 1, nil, 0)
}

// P4.2: what Make tells, of each count of images.
func TestScanOfEachCount(t *testing.T) {
	for n := range 49 {
		is := pages(n)
		scans(t, texts(t, mustMake(t, is, 3)), 3, [][]api.Image{is}, 4*n+1)
	}
}

// P4.2: what Make tells of a text of each length.
func TestScanOfEachLength(t *testing.T) {
	for n := range 97 {
		is := []api.Image{{Page: 9, Text: text(n, 200)}, {Page: 10, Text: strings.Repeat("\x00", n)}}
		scans(t, texts(t, mustMake(t, is, 3)), 3, [][]api.Image{is}, 9)
	}
}

// several tells transactions, and the bytes of their records in a row, from seq on, and where each ends.
func several(t *testing.T, seq int) ([][]api.Image, []string, []int) {
	t.Helper()
	full := text(96, 0)
	all := [][]api.Image{
		{{Page: 3, Text: full}},
		nil,
		{{Page: 0, Text: "a"}, {Page: 3, Text: full[:25]}, {Page: 47}},
		{{Page: 2, Text: full[:24]}, {Page: 3, Text: full[:60]}},
		nil,
		nil,
		{{Page: 0, Text: full[:48]}},
	}
	var rs []string
	var ends []int
	for _, is := range all {
		rs = append(rs, texts(t, mustMake(t, is, seq+len(rs)))...)
		ends = append(ends, len(rs))
	}
	return all, rs, ends
}

// ended tells how many of the transactions end within the first n records, and where the last of these does.
func ended(ends []int, n int) (int, int) {
	count, at := 0, 0
	for _, end := range ends {
		if end <= n {
			count, at = count+1, end
		}
	}
	return count, at
}

// P4.2: several transactions, cut behind each record: those that a commit ended.
func TestScanOfSeveralCutAnywhere(t *testing.T) {
	for _, seq := range []int{1, 77, 2147483647 - 34} {
		all, rs, ends := several(t, seq)
		for n := range len(rs) + 1 {
			count, used := ended(ends, n)
			scans(t, rs[:n], seq, all[:count], used)
		}
	}
}

// P4.2: from a record on that is not the next one (none, another one's, twice, left out), all is nothing behind the last commit ahead of it.
func TestScanStopsAtWhatIsNotTheNext(t *testing.T) {
	all, rs, ends := several(t, 77)
	blank := strings.Repeat("\x00", 32)
	for n := range rs {
		count, used := ended(ends, n)
		for _, other := range []string{"", "junk", blank, strings.Repeat("\xff", 32), rs[n][:31], rs[n] + "\x00", rs[n] + rs[n], rs[n][1:]} {
			row := slices.Clone(rs)
			row[n] = other
			scans(t, row, 77, all[:count], used)
			scans(t, slices.Insert(slices.Clone(rs), n, other), 77, all[:count], used)
		}
		for m := range rs {
			if m == n {
				continue
			}
			row := slices.Clone(rs)
			row[n] = rs[m]
			scans(t, row, 77, all[:count], used)
			scansAsTold(t, slices.Insert(slices.Clone(rs), n, rs[m]), 77)
		}
		if n < len(rs)-1 {
			scans(t, slices.Delete(slices.Clone(rs), n, n+1), 77, all[:count], used)
			swapped := slices.Clone(rs)
			swapped[n], swapped[n+1] = swapped[n+1], swapped[n]
			scans(t, swapped, 77, all[:count], used)
		}
	}
}

// P4.2: each record's each byte turned to each other one: what Make tells so, as far as that goes.
func TestScanOfAnyOtherByte(t *testing.T) {
	is := []api.Image{{Page: 3, Text: text(49, 0)}, {Page: 5}}
	rs := append(texts(t, mustMake(t, is, 250)), texts(t, mustMake(t, is[1:], 259))...)
	for n, s := range rs {
		for i := range s {
			for v := range 256 {
				b := []byte(s)
				b[i] = byte(v)
				row := slices.Clone(rs)
				row[n] = string(b)
				scansAsTold(t, row, 250)
			}
		}
	}
}

// P4.2: the first record's number must be seq, and each one's behind it one more, also where all else is right.
func TestScanOfOtherNumbers(t *testing.T) {
	is := []api.Image{{Page: 3, Text: "x"}}
	rs := texts(t, mustMake(t, is, 10))
	for seq := range 30 {
		if seq == 10 {
			scans(t, rs, seq, [][]api.Image{is}, 5)
		} else if seq > 0 {
			scans(t, rs, seq, nil, 0)
		}
	}
	for _, second := range []int{1, 10, 14, 16, 20} {
		row := append(slices.Clone(rs), texts(t, mustMake(t, is, second))...)
		scans(t, row, 10, [][]api.Image{is}, 5)
	}
	for _, numbers := range [][]int{{10, 11, 12, 13, 15}, {10, 10, 10, 10, 10}, {10, 12, 14, 16, 18}, {10, 9, 8, 7, 6}, {10, 11, 11, 12, 13}} {
		made := mustMake(t, is, 10)
		for i, seq := range numbers {
			made[i].Seq = seq
		}
		scans(t, texts(t, made), 10, nil, 0)
	}
}

// P4.2: seq from 1 to MaxSeq, one less and one more; the number behind a commit of number MaxSeq is one more.
func TestScanRefusesOtherNumbers(t *testing.T) {
	commits := func(seqs ...int) []string {
		var rs []api.Record
		for _, seq := range seqs {
			rs = append(rs, api.Record{Seq: seq, Part: 4})
		}
		return texts(t, rs)
	}
	scans(t, commits(1, 2), 1, make([][]api.Image, 2), 2)
	scans(t, commits(2147483646, 2147483647), 2147483646, make([][]api.Image, 2), 2)
	scans(t, commits(2147483647, 1), 2147483647, make([][]api.Image, 1), 1)
	scans(t, nil, 2147483647, nil, 0)
	is := []api.Image{{Page: 3, Text: "x"}}
	scans(t, texts(t, mustMake(t, is, 2147483643)), 2147483643, [][]api.Image{is}, 5)
	scans(t, texts(t, mustMake(t, is, 2147483643)[:4]), 2147483643, nil, 0)
	for _, seq := range []int{0, -1, 2147483648, math.MinInt, math.MaxInt, 1<<32 + 1} {
		scanRefused(t, nil, seq)
		scanRefused(t, commits(1, 2), seq)
		scanRefused(t, make([]string, 201), seq)
	}
}

// P4.2: at most LogSize texts, whatever they are.
func TestScanRefusesMoreThanLogSize(t *testing.T) {
	var commits []api.Record
	for seq := range 201 {
		commits = append(commits, api.Record{Seq: 1 + seq, Part: 4})
	}
	rs := texts(t, commits)
	scans(t, rs[:199], 1, make([][]api.Image, 199), 199)
	scans(t, rs[:200], 1, make([][]api.Image, 200), 200)
	scanRefused(t, rs, 1)
	scans(t, make([]string, 200), 7, nil, 0)
	scanRefused(t, make([]string, 201), 7)
	scanRefused(t, append(rs[:1:1], make([]string, 200)...), 1)
	is := pages(48)
	most := append(texts(t, mustMake(t, is, 5)), make([]string, 7)...)
	scans(t, most, 5, [][]api.Image{is}, 193)
	scanRefused(t, append(most, ""), 5)
}

// P4.2: a page that is greater, and no other one, may follow in a transaction; in the next one any may.
func TestScanOfTwoPages(t *testing.T) {
	for a := range 48 {
		for b := range 48 {
			first, second := []api.Image{{Page: a, Text: "a"}}, []api.Image{{Page: b, Text: text(30, 1)}}
			row := append(mustMake(t, first, 1)[:4], mustMake(t, second, 5)...)
			if a < b {
				scans(t, texts(t, row), 1, [][]api.Image{{first[0], second[0]}}, 9)
			} else {
				scans(t, texts(t, row), 1, nil, 0)
			}
			row = append(mustMake(t, first, 1), mustMake(t, second, 6)...)
			scans(t, texts(t, row), 1, [][]api.Image{first, second}, 10)
		}
	}
}

// P4.2: pieces as Make tells them: behind one that is not full all others are empty.
func TestScanOfPieces(t *testing.T) {
	sizes := []int{0, 1, 12, 23, 24}
	for k := range 5 * 5 * 5 * 5 {
		row := []api.Record{{Seq: 1, Page: 6}, {Seq: 2, Page: 6, Part: 1}, {Seq: 3, Page: 6, Part: 2}, {Seq: 4, Page: 6, Part: 3}, {Seq: 5, Part: 4}}
		whole, short, fine := "", false, true
		for part, n := range []int{sizes[k%5], sizes[k/5%5], sizes[k/25%5], sizes[k/125]} {
			row[part].Data = text(n, byte(50*part))
			whole += row[part].Data
			fine = fine && (!short || n == 0)
			short = short || n < 24
		}
		if fine {
			scans(t, texts(t, row), 1, [][]api.Image{{{Page: 6, Text: whole}}}, 5)
		} else {
			scans(t, texts(t, row), 1, nil, 0)
		}
	}
}

// P4.2: every row of five records of two pages, their parts and commits, without Data.
func TestScanOfEveryRow(t *testing.T) {
	var kinds []api.Record
	for page := range 2 {
		for part := range 4 {
			kinds = append(kinds, api.Record{Page: page, Part: part})
		}
	}
	kinds = append(kinds, api.Record{Part: 4})
	var at [5][]string
	for place := range at {
		for _, r := range kinds {
			r.Seq = 1 + place
			at[place] = append(at[place], texts(t, []api.Record{r})...)
		}
	}
	for k := range 9 * 9 * 9 * 9 * 9 {
		scansAsTold(t, []string{at[0][k%9], at[1][k/9%9], at[2][k/81%9], at[3][k/729%9], at[4][k/6561]}, 1)
	}
}

// P4.2: rows behind a whole page: its parts again, another page's, a commit too early, none.
func TestScanWithinATransaction(t *testing.T) {
	is := []api.Image{{Page: 1, Text: text(70, 0)}, {Page: 4, Text: text(10, 0)}, {Page: 9, Text: text(96, 0)}}
	made := mustMake(t, is, 1)
	for n := range made {
		for page := range 12 {
			for part := range 5 {
				for _, data := range []string{"", "x", text(24, 0)} {
					row := slices.Clone(made)
					row[n] = api.Record{Seq: 1 + n, Page: page, Part: part, Data: data}
					if part == 4 {
						row[n] = api.Record{Seq: 1 + n, Part: 4}
					}
					scansAsTold(t, texts(t, row), 1)
				}
			}
		}
	}
}

// R4: Make changes nothing that it was given, its spare room neither.
func TestMakeLeavesItsArgument(t *testing.T) {
	room := []api.Image{{Page: 1, Text: "a"}, {Page: 2, Text: "b"}, {Page: 77, Text: "spare"}, {Page: 78, Text: "spare"}}
	before := slices.Clone(room)
	mustMake(t, room[:2], 1)
	makeRefused(t, room[:3], 1)
	if !slices.Equal(room, before) {
		t.Errorf("Make made %v of %v", room, before)
	}
}

// R4: Scan changes nothing that it was given, its spare room neither.
func TestScanLeavesItsArgument(t *testing.T) {
	is := []api.Image{{Page: 1, Text: "a"}}
	room := append(texts(t, mustMake(t, is, 1)), "spare", "room")
	before := slices.Clone(room)
	scans(t, room[:5], 1, [][]api.Image{is}, 5)
	scans(t, room, 1, [][]api.Image{is}, 5)
	if !slices.Equal(room, before) {
		t.Errorf("Scan made %q of %q", room, before)
	}
}

// R4: Make's Data lies in no memory of its argument's, and each call's list is a new one.
func TestMakeSharesNoMemory(t *testing.T) {
	is := []api.Image{{Page: 1, Text: text(96, 0)}, {Page: 2, Text: "short"}}
	first, second := mustMake(t, is, 1), mustMake(t, is, 1)
	for _, i := range is {
		for k, r := range first {
			if overlap(r.Data, i.Text) || overlap(r.Data, second[k].Data) {
				t.Errorf("record %d lies in another one's memory", k)
			}
		}
	}
	clear(first)
	if _ = append(first[:0], api.Record{Page: 9}); !slices.Equal(second, mustMake(t, is, 1)) {
		t.Errorf("two answers share memory")
	}
}

// R4: Scan's texts lie in no memory of its argument's, and each list that is told is its own, with its spare room.
func TestScanSharesNoMemory(t *testing.T) {
	is := []api.Image{{Page: 1, Text: text(96, 0)}, {Page: 2, Text: "s"}, {Page: 3, Text: text(24, 0)}}
	rs := append(texts(t, mustMake(t, is, 1)), texts(t, mustMake(t, is, 14))...)
	first, _, _, _ := Scan(rs, 1)
	second, _, _, _ := Scan(rs, 1)
	want := [][]api.Image{is, is}
	if !alike(first, want) || !alike(second, want) {
		t.Fatalf("Scan(%q, 1): %v, then %v", rs, first, second)
	}
	for k, i := range slices.Concat(first...) {
		for _, s := range rs {
			if overlap(i.Text, s) {
				t.Errorf("text %d lies in the argument's memory", k)
			}
		}
		for m, other := range slices.Concat(append(second, first...)...) {
			if m != k+6 && overlap(i.Text, other.Text) {
				t.Errorf("texts %d and %d lie in one memory", k, m)
			}
		}
	}
	full := first[0][:cap(first[0])]
	for i := range full {
		full[i] = api.Image{Page: 40}
	}
	if !slices.Equal(first[1], is) || !alike(second, want) {
		t.Errorf("two lists share memory: %v, %v", first[1], second)
	}
}

// overlap asks whether two texts have a byte of memory in common.
func overlap(a string, b string) bool {
	if a == "" || b == "" {
		return false
	}
	x := uintptr(unsafe.Pointer(unsafe.StringData(a)))
	y := uintptr(unsafe.Pointer(unsafe.StringData(b)))
	return x < y+uintptr(len(b)) && y < x+uintptr(len(a))
}

// R5: the same arguments, the same answers, whatever was asked in between, also from several goroutines at one time.
func TestAnswersHangOnArgumentsAlone(t *testing.T) {
	all, rs, _ := several(t, 50)
	made := mustMake(t, all[2], 9)
	makeRefused(t, []api.Image{{Page: 48}}, 1)
	scanRefused(t, rs, 0)
	scans(t, rs[:3], 50, nil, 0)
	done := make(chan bool)
	for range 8 {
		go func() {
			again, _ := Make(all[2], 9)
			got, next, used, e := Scan(rs, 50)
			done <- reflect.DeepEqual(again, made) && alike(got, all) && next == 50+len(rs) && used == len(rs) && e == api.OK
		}()
	}
	for range 8 {
		if !<-done {
			t.Errorf("another answer at one time with others")
		}
	}
}
