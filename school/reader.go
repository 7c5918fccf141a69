package school

import (
	"iter"
	"math/bits"
	"slices"

	"astragal/api"
)

// ruleSet has bit r set if the rule r is in it.
type ruleSet uint32

// answerSet has bit a set if the answer a is in it.
type answerSet uint32

// reading is what the rules with the greatest rank say.
type reading struct {
	answers answerSet
	rules   ruleSet
}

// reader reads the charts of a school.
type reader struct {
	api.School
	silencing []ruleSet           // of each rule, those that silence it
	readings  map[ruleSet]reading // by the rules that apply: many charts have the same ones
}

// enter returns the reader of a school, or the error of the school.
func enter(s api.School) (reader, api.Errno) {
	if e := Check(s); e != api.OK {
		return reader{}, e
	}
	silencing := make([]ruleSet, len(s.Rules))
	for number, rule := range s.Rules {
		for _, other := range rule.Unless {
			silencing[number] |= 1 << other
		}
	}
	return reader{s, silencing, map[ruleSet]reading{}}, api.OK
}

// read returns how a chart is read.
func (r reader) read(chart []int, kind int) reading {
	applying := r.applying(chart, kind)
	x, known := r.readings[applying]
	if !known {
		x = r.decide(applying)
		r.readings[applying] = x
	}
	return x
}

// applying returns the rules that apply to a chart and a kind of questions.
func (r reader) applying(chart []int, kind int) ruleSet {
	applying := ruleSet(0)
	for number, rule := range r.Rules {
		if rule.Kinds>>kind&1 == 1 && meets(chart, rule.When) {
			applying |= 1 << number
		}
	}
	return applying
}

// decide returns the reading of charts to which these rules apply.
func (r reader) decide(applying ruleSet) reading {
	speaking, top := ruleSet(0), -api.MaxRank
	x := reading{}
	for number, rule := range r.Rules {
		this := ruleSet(1) << number
		if applying&this == 0 || speaking&r.silencing[number] != 0 {
			continue
		}
		speaking |= this
		if rule.Rank > top {
			x, top = reading{}, rule.Rank
		}
		if rule.Rank == top {
			x.rules |= this
			x.answers |= 1 << rule.Says
		}
	}
	return x
}

// first returns the number of the first chart that something is true of, or -1.
func (r reader) first(is func(chart []int) bool) int {
	for number, chart := range r.all() {
		if is(chart) {
			return number
		}
	}
	return -1
}

// all yields all charts with their numbers.
func (r reader) all() iter.Seq2[int, []int] {
	return func(yield func(int, []int) bool) {
		for number := range charts(r.School) {
			if !yield(number, numbered(r.School, number)) {
				return
			}
		}
	}
}

// kind returns the kind of a reading.
func (x reading) kind() api.ReadKind {
	switch bits.OnesCount32(uint32(x.answers)) {
	case 0:
		return api.ReadSilent
	case 1:
		return api.ReadSaid
	}
	return api.ReadSplit
}

// meets reports whether all of these tests hold for a chart.
func meets(chart []int, tests []api.SchoolTest) bool {
	fails := func(t api.SchoolTest) bool {
		switch t.Kind {
		case api.TestIn:
			return t.Set>>chart[t.Place]&1 == 0
		case api.TestSame:
			return chart[t.Place] != chart[t.Other]
		}
		return chart[t.Place] == chart[t.Other]
	}
	return !slices.ContainsFunc(tests, fails)
}

// inside reports whether a chart is in a region.
func inside(chart []int, sets []uint64) bool {
	for place, figure := range chart {
		if sets[place]>>figure&1 == 0 {
			return false
		}
	}
	return true
}

// listed returns what is in a set, in ascending order.
func listed[T ~uint32](set T) []int {
	var l []int
	for ; set != 0; set &= set - 1 {
		l = append(l, bits.TrailingZeros32(uint32(set)))
	}
	return l
}
