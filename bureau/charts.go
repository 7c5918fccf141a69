package bureau

import (
	"astragal/api"
	"astragal/hexagram"
	"astragal/house"
	"astragal/shield"
	"astragal/whole"
)

// verdicts are the words for what is judged.
var verdicts = [...]string{api.Granted: "granted", api.Helped: "helped", api.Hardly: "hardly", api.Denied: "denied"}

// charting returns what keeps the chart of mothers under the name that comes first; the other word tells the mothers.
func charting(mothers func(word) (api.Mothers, api.Errno)) deed {
	return func(b *Bureau, w []word) (string, api.Errno) {
		name := w[0].text
		if e := b.charts.room(name, api.MaxLeaves); e != api.OK {
			return "", e
		}
		m, e := mothers(w[1])
		if e != api.OK {
			return "", e
		}
		s, e := shield.Derive(m)
		if e != api.OK {
			return "", e
		}
		b.charts.put(name, s)
		return answer(api.OK, mothersOf(s))
	}
}

// sand returns the mothers that rows of marks in the sand make.
func sand(w word) (api.Mothers, api.Errno) { return shield.Cast(w.numbers) }

// numbered returns the mothers with a number.
func numbered(w word) (api.Mothers, api.Errno) { return shield.Mothers(w.number) }

// mothersOf writes the number of the mothers of a chart.
func mothersOf(s api.Shield) string {
	// The figures of a chart are valid, so that Number has no error.
	n, _ := shield.Number(api.Mothers(s[:4]))
	return number(n)
}

// at returns the figure at a place of a chart.
func (b *Bureau) at(name string, place int) (api.Figure, api.Errno) {
	s, e := b.charts.find(name)
	switch {
	case e != api.OK:
		return 0, e
	case whole.Outside(0, len(s)-1)(place):
		return 0, api.ErrRange
	}
	return s[place], api.OK
}

// figure tells which figure is at a place of a chart.
func (b *Bureau) figure(w []word) (string, api.Errno) {
	f, e := b.at(w[0].text, w[1].number)
	if e != api.OK {
		return "", e
	}
	return shield.Name(f)
}

// houses tells what is judged of two houses of a chart.
func (b *Bureau) houses(w []word) (string, api.Errno) {
	s, e := b.charts.find(w[0].text)
	if e != api.OK {
		return "", e
	}
	h, e := house.Of(s)
	if e != api.OK {
		return "", e
	}
	v, e := house.Judge(h, w[1].number, w[2].number)
	return answer(e, verdicts[v])
}

// mend tells what is wrong with a copy of a chart.
func (*Bureau) mend(w []word) (string, api.Errno) {
	var s api.Shield
	if len(w[0].numbers) != len(s) {
		return "", api.ErrRange
	}
	for place, figure := range w[0].numbers {
		s[place] = api.Figure(figure)
	}
	r, e := shield.Mend(s)
	return answer(e, number(r.Marks), number(r.Charts), mothersOf(r.Shield))
}

// hexagrams tells which two hexagrams six lines make.
func (*Bureau) hexagrams(w []word) (string, api.Errno) {
	if len(w[0].numbers) != 6 {
		return "", api.ErrRange
	}
	first, second, e := hexagram.Cast([6]int(w[0].numbers))
	return answer(e, number(first), number(second))
}

// exam tells a pupil whether a figure is at a place of a chart.
func (b *Bureau) exam(w []word) (string, api.Errno) {
	f, e := b.at(w[0].text, w[1].number)
	if e != api.OK {
		return "", e
	}
	said := api.Figure(w[2].number)
	if e := shield.Check(said); e != api.OK {
		return "", e
	}
	if said == f {
		b.right++
		return answer(api.OK, "right")
	}
	b.wrong++
	name, e := shield.Name(f)
	return answer(e, "wrong", name)
}

// score tells how many answers of pupils were right, and how many were wrong.
func (b *Bureau) score([]word) (string, api.Errno) {
	return answer(api.OK, number(b.right), number(b.wrong))
}
