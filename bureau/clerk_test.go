package bureau_test

import (
	"slices"
	"strings"

	"astragal/almanac"
	"astragal/api"
	"astragal/habit"
	"astragal/hand"
	"astragal/hexagram"
	"astragal/house"
	"astragal/odds"
	"astragal/school"
	"astragal/share"
	"astragal/shield"
	"astragal/witness"
)

// clerk carries out lines in the document's words: what is kept is what was said, and each answer is found anew.
type clerk struct {
	readers  []reader
	names    []string
	hands    []api.Hand
	casts    [][]int
	leaves   []string
	mothers  []api.Mothers
	schools  []api.School
	almanac  api.Almanac
	dayRules []api.DayRule
	days     []int
	rotas    []api.Rota
	drawings []*witness.Drawing
	below    int
	lessons  []bool
}

// newClerk returns a clerk of a bureau without anything.
func newClerk() *clerk {
	return &clerk{days: []int{0}, almanac: api.Almanac{Solar: api.SolarRule{Every: 4, But: 100, Unless: 400}, Lunar: api.LunarRule{Days: 59, Per: 2, Phase: 0, Months: 235, Years: 19, Shift: 0, Leap: 4}}}
}

// say carries out a line.
func (c *clerk) say(line string) (answer string, e api.Errno) {
	defer func() {
		if r := recover(); r != nil {
			answer, e = "", r.(api.Errno)
		}
	}()
	if len(line) > 2000 {
		return "", api.ErrLong
	}
	for _, r := range readers {
		if found := r.words.FindStringSubmatch(line); found != nil {
			s := said{}
			for k, word := range strings.Fields(r.form)[1:] {
				s[word] = found[k+1]
			}
			return c.answer(r.command, s), api.OK
		}
	}
	return "", api.ErrForm
}

// demand fails with an error unless something is so.
func demand(is bool, e api.Errno) {
	if !is {
		panic(e)
	}
}

// last returns the last one of a list; it fails if there is none.
func last[T any](l []T) *T {
	demand(len(l) > 0, api.ErrState)
	return &l[len(l)-1]
}

// answer returns the answer of a line of a command.
func (c *clerk) answer(command string, s said) string {
	switch command {
	case "throw", "marks", "stalks", "cards", "deck":
		return c.keep(command, s)
	case "cast", "weights", "chance", "tally", "evidence":
		return c.ask(command, s)
	case "sand", "chart", "figure", "houses", "mend", "lines":
		return c.chart(command, s)
	case "school", "rule", "read", "silent", "split", "minimal":
		return c.school(command, s)
	case "day", "cycle", "moon", "allow", "forbid", "date", "next":
		return c.calendar(command, s)
	case "rota", "due", "serve":
		return c.service(command, s)
	case "draw", "seal", "open", "close", "value", "deviants", "lot":
		return c.draw(command, s)
	}
	return c.lesson(command, s)
}

// keep keeps a hand.
func (c *clerk) keep(command string, s said) string {
	demand(!slices.Contains(c.names, s["NAME"]), api.ErrTwice)
	demand(len(c.names) < 8, api.ErrFull)
	var h api.Hand
	switch command {
	case "throw":
		h = api.Hand{Kind: 1, Count: s.n("COUNT")}
		for _, face := range parts(s["FACES"], ",") {
			l := toNumbers(face, ":")
			h.Faces = append(h.Faces, api.Face{Value: l[0], Weight: l[1]})
		}
	case "marks":
		h = api.Hand{Kind: 2, Low: s.n("LOW"), High: s.n("HIGH")}
	case "stalks":
		h = api.Hand{Kind: 3, Count: s.n("COUNT"), Group: s.n("GROUP"), Changes: s.n("CHANGES")}
	case "cards":
		h = api.Hand{Kind: 4, Count: s.n("COUNT"), Cards: s.l("CARDS")}
	case "deck":
		h = api.Hand{Kind: 5, Cards: s.l("CARDS")}
	}
	n := ok(hand.Outcomes(h))
	c.names, c.hands, c.casts = append(c.names, s["NAME"]), append(c.hands, h), append(c.casts, nil)
	return spread(" ", n)
}

// ask asks a hand.
func (c *clerk) ask(command string, s said) string {
	k := slices.Index(c.names, s["NAME"])
	demand(k >= 0, api.ErrNone)
	switch command {
	case "cast":
		outcome, _, e := hand.Run(c.hands[k], s.l("CHOICES"))
		demand(e == api.OK, e)
		demand(len(c.casts[k]) < 400, api.ErrFull)
		c.casts[k] = append(c.casts[k], outcome)
		return spread(" ", outcome)
	case "weights":
		return spread(",", ok(hand.Weights(c.hands[k]))...)
	case "chance":
		p := ok(odds.Of(ok(hand.Weights(c.hands[k])), s.l("LIST")))
		return spread("/", p.Num, p.Den)
	case "tally":
		var words []string
		for outcome := range 4096 {
			n := 0
			for _, x := range c.casts[k] {
				if x == outcome {
					n++
				}
			}
			if n > 0 {
				words = append(words, spread(":", outcome, n))
			}
		}
		return spread(" ", words...)
	}
	other := slices.Index(c.names, s["OTHER"])
	demand(other >= 0, api.ErrNone)
	a := api.Model{Kind: 1, Rows: [][]int{ok(hand.Weights(c.hands[k]))}}
	b := api.Model{Kind: 1, Rows: [][]int{ok(hand.Weights(c.hands[other]))}}
	return spread(" ", ok(habit.Compare(a, b, c.casts[k])))
}

// chart draws up a chart, or tells something of one, or of a copy.
func (c *clerk) chart(command string, s said) string {
	k := slices.Index(c.leaves, s["NAME"])
	switch command {
	case "sand", "chart":
		demand(k < 0, api.ErrTwice)
		demand(len(c.leaves) < 20, api.ErrFull)
		var m api.Mothers
		if command == "sand" {
			m = ok(shield.Cast(s.l("ROWS")))
		} else {
			m = ok(shield.Mothers(s.n("NUMBER")))
		}
		c.leaves, c.mothers = append(c.leaves, s["NAME"]), append(c.mothers, m)
		return spread(" ", ok(shield.Number(m)))
	case "figure":
		demand(k >= 0, api.ErrNone)
		demand(s.n("PLACE") >= 0 && s.n("PLACE") <= 15, api.ErrRange)
		return ok(shield.Name(ok(shield.Derive(c.mothers[k]))[s.n("PLACE")]))
	case "houses":
		demand(k >= 0, api.ErrNone)
		v := ok(house.Judge(ok(house.Of(ok(shield.Derive(c.mothers[k])))), s.n("A"), s.n("B")))
		return strings.Fields("granted helped hardly denied")[v-1]
	case "mend":
		l := s.l("FIGURES")
		demand(len(l) == 16, api.ErrRange)
		var copied api.Shield
		for k, f := range l {
			copied[k] = api.Figure(f)
		}
		r := ok(shield.Mend(copied))
		return spread(" ", r.Marks, r.Charts, ok(shield.Number(api.Mothers(r.Shield[:4]))))
	}
	demand(len(s.l("LIST")) == 6, api.ErrRange)
	first, second, e := hexagram.Cast([6]int(s.l("LIST")))
	demand(e == api.OK, e)
	return spread(" ", first, second)
}

// school founds a school, or asks it.
func (c *clerk) school(command string, s said) string {
	if command == "school" {
		x := api.School{Places: s.n("PLACES"), Signs: s.n("SIGNS"), Kinds: s.n("KINDS"), Answers: s.n("ANSWERS")}
		ok(0, school.Check(x))
		c.schools = append(c.schools, x)
		return "ok"
	}
	x := *last(c.schools)
	claim := api.SchoolClaim{Sets: make([]uint64, x.Places), Total: command == "silent", Clear: command == "split"}
	for place := range x.Places {
		for sign := range x.Signs {
			claim.Sets[place] |= 1 << sign
		}
	}
	switch command {
	case "rule":
		r := api.SchoolRule{Kinds: s.n("KINDS"), Rank: s.n("RANK"), Says: s.n("SAYS"), Unless: s.l("LIST")}
		for _, test := range parts(s["TESTS"], ",") {
			between := test[strings.IndexAny(test, "=:/"):][:1]
			l := toNumbers(test, between)
			r.When = append(r.When, map[string]api.SchoolTest{
				"=": {Kind: 1, Place: l[0], Set: uint64(l[1])}, ":": {Kind: 2, Place: l[0], Other: l[1]}, "/": {Kind: 3, Place: l[0], Other: l[1]},
			}[between])
		}
		x.Rules = append(slices.Clone(x.Rules), r)
		ok(0, school.Check(x))
		*last(c.schools) = x
		return spread(" ", len(x.Rules)-1)
	case "read":
		r := ok(school.Read(x, s.l("CHART"), s.n("KIND")))
		return spread(" ", strings.Fields("said silent split")[r.Kind-1], spread(",", r.Answers...), spread(",", r.Rules...))
	case "silent", "split":
		claim.Kind = s.n("KIND")
		_, chart, e := school.Keeps(x, []api.SchoolClaim{claim})
		demand(e == api.OK, e)
		return spread(" ", chart)
	}
	return spread(",", ok(school.Minimal(x))...)
}

// allowed reports whether the day is allowed by rules.
func (c *clerk) allowed(rules []api.DayRule) bool {
	is, _, e := almanac.Allowed(c.almanac, rules, *last(c.days))
	demand(e == api.OK, e)
	return is
}

// dayTest returns the test of a day that a text is.
func dayTest(test string) api.DayTest {
	what, set, _ := strings.Cut(test, "=")
	switch {
	case test == "leap":
		return api.DayTest{Kind: 6}
	case set == "":
		l := toNumbers(test, "..")
		return api.DayTest{Kind: 7, From: l[0], To: l[1]}
	case what[0] == 'c':
		return api.DayTest{Kind: 1, Which: toNumber(what[1:]), Set: uint64(toNumber(set))}
	}
	return api.DayTest{Kind: api.DayTestKind(2 + strings.Index("mdMD", what)), Set: uint64(toNumber(set))}
}

// calendar tells days, or changes what is known of them.
func (c *clerk) calendar(command string, s said) string {
	day, changed := *last(c.days), c.almanac
	switch command {
	case "day":
		demand(s.n("N") >= 0 && s.n("N") <= 1000000, api.ErrRange)
		demand(s.n("N") >= day, api.ErrState)
		c.days = append(c.days, s.n("N"))
		return "ok"
	case "cycle":
		changed.Cycles = append(slices.Clone(changed.Cycles), api.Cycle{Length: s.n("LENGTH"), Start: s.n("START")})
		ok(0, almanac.Check(changed))
		c.almanac = changed
		return spread(" ", len(changed.Cycles)-1)
	case "moon":
		changed.Lunar = api.LunarRule{Days: s.n("DAYS"), Per: s.n("PER"), Phase: s.n("PHASE"), Months: s.n("MONTHS"), Years: s.n("YEARS"), Shift: s.n("SHIFT"), Leap: s.n("LEAP")}
		ok(0, almanac.Check(changed))
		c.almanac = changed
		return "ok"
	case "allow", "forbid":
		r := api.DayRule{Allow: command == "allow"}
		for _, test := range parts(s["TESTS"], ",") {
			r.When = append(r.When, dayTest(test))
		}
		rules := append(slices.Clone(c.dayRules), r)
		c.allowed(rules)
		c.dayRules = rules
		return spread(" ", len(rules)-1)
	case "date":
		sun, moon := ok(almanac.Solar(c.almanac.Solar, day)), ok(almanac.Lunar(c.almanac.Lunar, day))
		month := spread(" ", moon.Month)
		if moon.Leap {
			month += "*"
		}
		return spread(" ", spread("-", sun.Year, sun.Month, sun.Day), spread[any]("-", moon.Year, month, moon.Day))
	}
	return spread(" ", ok(almanac.Next(c.almanac, c.dayRules, day, day+s.n("DAYS"))))
}

// service begins a rota, or serves.
func (c *clerk) service(command string, s said) string {
	if command == "rota" {
		r := api.Rota{Persons: s.n("PERSONS"), Seats: s.n("SEATS")}
		_, _, _, e := share.Due(r)
		demand(e == api.OK, e)
		c.rotas = append(c.rotas, r)
		return "ok"
	}
	r := last(c.rotas)
	if command == "due" {
		must, may, many, e := share.Due(*r)
		demand(e == api.OK, e)
		return spread(" ", spread(",", must...), spread(",", may...), spread(",", many))
	}
	return c.serve(s.n("NUMBER"))
}

// serve serves by a number.
func (c *clerk) serve(number int) string {
	r := last(c.rotas)
	demand(c.allowed(c.dayRules), api.ErrState)
	demand(len(r.Past) < 60, api.ErrFull)
	l := ok(share.Serve(*r, number))
	r.Past = append(slices.Clone(r.Past), l)
	return spread(",", l...)
}

// draw draws in public.
func (c *clerk) draw(command string, s said) string {
	if command == "draw" {
		d := ok(witness.New(s.n("BELOW"), s.n("PERSONS")))
		c.drawings, c.below = append(c.drawings, d), s.n("BELOW")
		return "ok"
	}
	d := *last(c.drawings)
	switch command {
	case "seal":
		ok(0, d.Seal(s.n("PERSON"), s["HASH"]))
		return "ok"
	case "open":
		return spread(" ", ok(d.Open(api.Box{Person: s.n("PERSON"), Value: s.n("VALUE"), Salt: s["SALT"]})))
	case "close":
		ok(0, d.Close())
		return "ok"
	case "value":
		return spread(" ", ok(d.Value()))
	case "deviants":
		var words []string
		for _, x := range ok(d.Deviants()) {
			words = append(words, spread(":", x.Person, int(x.Kind), x.Seal, x.Line))
		}
		return spread(" ", words...)
	}
	r := last(c.rotas)
	number := ok(d.Value())
	_, _, many, _ := share.Due(*r)
	demand(c.below == many, api.ErrState)
	answer := c.serve(number)
	c.drawings = nil
	return answer
}

// lesson examines a pupil, or tells how they did.
func (c *clerk) lesson(command string, s said) string {
	if command == "exam" {
		name := c.chart("figure", s)
		demand(s.n("FIGURE") >= 0 && s.n("FIGURE") <= 15, api.ErrArg)
		right := ok(shield.Name(api.Figure(s.n("FIGURE")))) == name
		c.lessons = append(c.lessons, right)
		if right {
			return "right"
		}
		return "wrong " + name
	}
	right := 0
	for _, is := range c.lessons {
		if is {
			right++
		}
	}
	return spread(" ", right, len(c.lessons)-right)
}
