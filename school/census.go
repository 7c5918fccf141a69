package school

import "astragal/api"

// Count counts how charts are read.
func Count(s api.School, kind int, sets []uint64) (api.SchoolCensus, api.Errno) {
	r, e := enter(s)
	if e != api.OK {
		return api.SchoolCensus{}, e
	}
	if e := asked(s, kind, sets); e != api.OK {
		return api.SchoolCensus{}, e
	}
	c := api.SchoolCensus{Said: make([]int, s.Answers)}
	for _, chart := range r.all() {
		if !inside(chart, sets) {
			continue
		}
		c.Charts++
		x := r.read(chart, kind)
		switch x.kind() {
		case api.ReadSilent:
			c.Silent++
		case api.ReadSplit:
			c.Split++
		default:
			c.Said[listed(x.answers)[0]]++
		}
	}
	return c, api.OK
}

// Keeps returns the first claim that a school does not keep, and the chart.
func Keeps(s api.School, claims []api.SchoolClaim) (claim, chart int, e api.Errno) {
	r, e := enter(s)
	if e != api.OK {
		return 0, 0, e
	}
	if len(claims) > api.MaxClaims {
		return 0, 0, api.ErrLong
	}
	for _, c := range claims {
		if e := asked(s, c.Kind, c.Sets); e != api.OK {
			return 0, 0, e
		}
	}
	for number, c := range claims {
		if first := r.breaking(c); first >= 0 {
			return number, first, api.OK
		}
	}
	return -1, -1, api.OK
}

// Differ returns the first chart that two schools read differently.
func Differ(a, b api.School, kind int) (int, api.Errno) {
	r, e := enter(a)
	if e != api.OK {
		return 0, e
	}
	other, e := enter(b)
	if e != api.OK {
		return 0, e
	}
	if a.Places != b.Places || a.Signs != b.Signs {
		return 0, api.ErrState
	}
	if !isKind(a, kind) || !isKind(b, kind) {
		return 0, api.ErrNone
	}
	// The answers tell the kind of a reading, too.
	return r.first(func(chart []int) bool {
		return r.read(chart, kind).answers != other.read(chart, kind).answers
	}), api.OK
}

// asked returns the error of what is asked of the charts of a region.
func asked(s api.School, kind int, sets []uint64) api.Errno {
	if !isKind(s, kind) {
		return api.ErrNone
	}
	if !isRegion(s, sets) {
		return api.ErrForm
	}
	return api.OK
}

// breaking returns the number of the first chart with which a claim is not kept, or -1.
func (r reader) breaking(c api.SchoolClaim) int {
	return r.first(func(chart []int) bool {
		if !inside(chart, c.Sets) {
			return false
		}
		kind := r.read(chart, c.Kind).kind()
		return c.Total && kind == api.ReadSilent || c.Clear && kind == api.ReadSplit
	})
}
