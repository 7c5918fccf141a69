package share_test

import (
	"testing"

	"astragal/api"
	"astragal/share"
)

// lacking returns by how many seats a set of offices is short, in the document's words.
func lacking(d api.ShareDraw, offices int) int {
	seats := 0
	for k, o := range d.Offices {
		if offices&(1<<k) != 0 {
			seats += o.Seats
		}
	}
	have := make([]int, len(d.Limits))
	for person, limit := range d.Limits {
		for k, o := range d.Offices {
			if offices&(1<<k) != 0 && o.Can&(1<<person) != 0 {
				have[person]++
			}
		}
		have[person] = min(have[person], limit)
	}
	all := 0
	for person, n := range have {
		grouped := false
		for _, g := range d.Groups {
			grouped = grouped || g.Members&(1<<person) != 0
		}
		if !grouped {
			all += n
		}
	}
	for _, g := range d.Groups {
		together := 0
		for person, n := range have {
			if g.Members&(1<<person) != 0 {
				together += n
			}
		}
		all += min(together, g.Most)
	}
	return max(0, seats-all)
}

// P10.3: the chapter's example 3, and others.
func TestShort(t *testing.T) {
	only := three()
	only.Offices[0].Can, only.Offices[1].Can = set(2), set(2)
	twice := api.ShareDraw{Limits: []int{5, 5}, Offices: []api.ShareOffice{office(3, 0, 1), office(1), office(2, 0, 1)}}
	for i, c := range []struct {
		d               api.ShareDraw
		short           []int
		offices, missed int
	}{
		{only, []int{0, 0, 0, 1}, 3, 1},
		{three(), []int{0, 0, 0, 0}, 0, 0},
		{three(group(1, 0, 1)), []int{0, 0, 0, 0}, 0, 0},
		{three(group(1, 0, 1, 2)), []int{0, 0, 0, 1}, 3, 1},
		{three(group(0, 0, 1, 2)), []int{0, 1, 1, 2}, 1, 1},
		{three(group(0, 0, 1), group(0, 2)), []int{0, 1, 1, 2}, 1, 1},
		{three(group(0, 0, 1), group(0)), []int{0, 0, 0, 1}, 3, 1},
		{twice, []int{0, 1, 1, 2, 0, 1, 1, 2}, 1, 1},
		{api.ShareDraw{Limits: []int{0}, Offices: []api.ShareOffice{office(3, 0)}}, []int{0, 3}, 1, 3},
		{api.ShareDraw{Limits: []int{1, 3}, Offices: []api.ShareOffice{office(1, 1), office(1, 0), office(1, 0)}}, []int{0, 0, 0, 0, 0, 0, 1, 1}, 6, 1},
	} {
		for offices, want := range c.short {
			if n, e := share.Short(c.d, offices); n != want || e != api.OK {
				t.Error(i, offices, n, e)
			}
		}
		if offices, n, e := share.Block(c.d); offices != c.offices || n != c.missed || e != api.OK {
			t.Error(i, offices, n, e)
		}
		for _, offices := range append(extremes(), len(c.short)) {
			if n, e := share.Short(c.d, offices); n != 0 || e != api.ErrRange {
				t.Error(i, offices, n, e)
			}
		}
	}
	none := great()
	for k := range none.Offices {
		none.Offices[k].Can = 0
	}
	if n, e := share.Short(none, 31); n != 15 || e != api.OK {
		t.Error(n, e)
	}
}

// P10.3, P10.9: sets of offices of any drawings as in the document's words; there is a set that is short just if there is no assignment.
func TestBlock(t *testing.T) {
	next, blocked := noise(4), map[int]int{}
	for range 1500 {
		d := noiseDraw(next, size{1, 8, 5, 3, 4})
		first, missed := 0, 0
		for offices := range 1 << len(d.Offices) {
			want := lacking(d, offices)
			if n, e := share.Short(d, offices); n != want || e != api.OK {
				t.Fatal(d, offices, n, e, want)
			}
			if want > 0 && first == 0 {
				first, missed = offices, want
			}
		}
		offices, n, e := share.Block(d)
		if offices != first || n != missed || e != api.OK {
			t.Fatal(d, offices, n, e, first, missed)
		}
		if count := ok(share.Count(d)); (count == 0) != (offices != 0) {
			t.Fatal(d, count, offices)
		}
		blocked[n]++
	}
	if blocked[0] < 300 || blocked[1] < 100 || blocked[2] < 100 {
		t.Error("the drawings are too much alike", blocked)
	}
}

// P10.9: offices that are short have no assignment of their own.
func TestBlockAlone(t *testing.T) {
	next := noise(5)
	for range 400 {
		d := noiseDraw(next, size{1, 6, 4, 3, 3})
		for offices := 1; offices < 1<<len(d.Offices); offices++ {
			alone := api.ShareDraw{Limits: d.Limits, Groups: d.Groups}
			for k, o := range d.Offices {
				if offices&(1<<k) != 0 {
					alone.Offices = append(alone.Offices, o)
				}
			}
			short := ok(share.Short(d, offices))
			if n := ok(share.Count(alone)); short > 0 && n > 0 || ok(share.Short(alone, 1<<len(alone.Offices)-1)) != short {
				t.Fatal(d, offices, short, n)
			}
		}
	}
}
