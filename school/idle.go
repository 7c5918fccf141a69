package school

import "astragal/api"

// pruner looks for idle rules.
type pruner struct {
	reader
	out ruleSet // what is left out: without it all charts are read as by the whole school
}

// Idle returns the rules that change nothing.
func Idle(s api.School) ([]int, api.Errno) {
	p, e := pruning(s)
	if e != api.OK {
		return nil, e
	}
	var l []int
	for number := range p.Rules {
		if p.idle(number) {
			l = append(l, number)
		}
	}
	return l, api.OK
}

// Minimal returns rules that are enough.
func Minimal(s api.School) ([]int, api.Errno) {
	p, e := pruning(s)
	if e != api.OK {
		return nil, e
	}
	for p.prune() {
	}
	every := ruleSet(1)<<len(s.Rules) - 1
	return listed(every &^ p.out), api.OK
}

// pruning returns what looks for idle rules of a school, or the error of the school.
func pruning(s api.School) (pruner, api.Errno) {
	r, e := enter(s)
	if e != api.OK {
		return pruner{}, e
	}
	for _, chart := range r.all() {
		for kind := range s.Kinds {
			r.read(chart, kind) // so that it is kept among the readings
		}
	}
	return pruner{reader: r}, api.OK
}

// prune leaves out the idle rules from the last one to the first one, and reports whether there were any more.
func (p *pruner) prune() bool {
	before := p.out
	for number := len(p.Rules) - 1; number >= 0; number-- {
		if p.idle(number) { // as a rule that is left out already is, too
			p.out |= 1 << number
		}
	}
	return p.out != before
}

// idle reports whether a rule is idle in the school without those that are left out.
func (p *pruner) idle(number int) bool {
	without := p.out | 1<<number
	for applying, x := range p.readings {
		if applying>>number&1 == 1 && p.decide(applying&^without).answers != x.answers {
			return false
		}
	}
	return true
}
