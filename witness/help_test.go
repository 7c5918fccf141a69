package witness_test

import (
	"fmt"
	"hash/fnv"
	"math"
	"reflect"
	"regexp"
	"slices"
	"strconv"
	"strings"
	"testing"

	"astragal/api"
	"astragal/witness"
)

// The boxes of the chapter's example, and two boxes of one person that have the same hash.
var (
	one   = api.Box{Person: 1, Value: 7, Salt: "oak"}
	two   = api.Box{Person: 2, Value: 9, Salt: "elm"}
	twins = []api.Box{{Person: 1, Value: 16, Salt: "ea2dktx4ue5s"}, {Person: 1, Value: 11, Salt: "bivxrf7xmluj"}}
)

// ok returns the result of a call that has no error.
func ok[T any](x T, e api.Errno) T {
	if e != api.OK {
		panic(e)
	}
	return x
}

// noise returns numbers from 0 to most that follow no simple rule, and the same ones for the same seed.
func noise(seed uint64) func(most int) int {
	return func(most int) int {
		seed = seed*6364136223846793005 + 1442695040888963407
		return int((seed >> 16) % uint64(most+1))
	}
}

// extremes are numbers that are too small or too great for everything.
func extremes() []int {
	return []int{math.MinInt, math.MinInt + 1, math.MinInt32, -1000000001, 1000000002, 1 << 32, math.MaxInt - 1, math.MaxInt}
}

// zero reports whether all of these are zero values, or empty lists.
func zero(l ...any) bool {
	for _, x := range l {
		if v := reflect.ValueOf(x); !v.IsZero() && (v.Kind() != reflect.Slice || v.Len() > 0) {
			return false
		}
	}
	return true
}

// hashed returns the hash of a text, by the library of the language.
func hashed(s string) string {
	h := fnv.New64a()
	h.Write([]byte(s))
	return fmt.Sprintf("%016x", h.Sum64())
}

// sealOf returns the hash of a box, valid or not.
func sealOf(b api.Box) string { return hashed(fmt.Sprintf("%d:%d:%s", b.Person, b.Value, b.Salt)) }

var (
	salts  = regexp.MustCompile(`\A[a-z0-9]{1,20}\z`)
	hashes = regexp.MustCompile(`\A[0-9a-f]{16}\z`)
	draws  = regexp.MustCompile(`\Adraw (0|[1-9][0-9]{0,15}) (0|[1-9][0-9]{0,15})\n\z`)
	seals  = regexp.MustCompile(`\Aseal (0|[1-9][0-9]{0,15}) ([^ \n]+)\n\z`)
	opens  = regexp.MustCompile(`\Aopen (0|[1-9][0-9]{0,15}) (0|[1-9][0-9]{0,15}) ([^ \n]+)\n\z`)
)

// record is a drawing in the document's words: nothing but the lines of its transcript.
type record struct {
	below, persons int
	said           []string
}

// newRecord begins the record of a drawing.
func newRecord(below, persons int) *record {
	return &record{below, persons, []string{fmt.Sprintf("draw %d %d\n", below, persons)}}
}

// find returns the number of the first line with these words at its beginning, and the words behind them; 0 if there is none.
func (r *record) find(words ...any) (int, []string) {
	begin := strings.TrimSuffix(fmt.Sprintln(words...), "\n")
	for k, line := range r.said {
		if rest, is := strings.CutPrefix(strings.TrimSuffix(line, "\n")+" ", begin+" "); is {
			return k + 1, strings.Fields(rest)
		}
	}
	return 0, nil
}

// count returns how many persons have sealed a box, or have opened one.
func (r *record) count(word string) int {
	n := 0
	for _, line := range r.said {
		if strings.HasPrefix(line, word+" ") {
			n++
		}
	}
	return n
}

// over reports whether the drawing is over.
func (r *record) over() bool {
	closed, _ := r.find("close")
	return closed > 0 || r.count("open") == r.persons
}

// seal posts a hash.
func (r *record) seal(person int, hash string) api.Errno {
	line, _ := r.find("seal", person)
	switch {
	case person < 1 || person > r.persons:
		return api.ErrNone
	case !hashes.MatchString(hash):
		return api.ErrForm
	case line > 0:
		return api.ErrTwice
	}
	r.said = append(r.said, fmt.Sprintf("seal %d %s\n", person, hash))
	return api.OK
}

// open opens a box.
func (r *record) open(b api.Box) (bool, api.Errno) {
	line, _ := r.find("open", b.Person)
	switch {
	case b.Person < 1 || b.Person > r.persons:
		return false, api.ErrNone
	case b.Value < 0 || b.Value >= r.below:
		return false, api.ErrRange
	case !salts.MatchString(b.Salt):
		return false, api.ErrForm
	case r.count("seal") < r.persons || r.over():
		return false, api.ErrState
	case line > 0:
		return false, api.ErrTwice
	}
	r.said = append(r.said, fmt.Sprintf("open %d %d %s\n", b.Person, b.Value, b.Salt))
	_, posted := r.find("seal", b.Person)
	return posted[0] == sealOf(b), api.OK
}

// close ends the drawing.
func (r *record) close() api.Errno {
	if r.count("seal") < r.persons || r.over() {
		return api.ErrState
	}
	r.said = append(r.said, "close\n")
	return api.OK
}

// deviants returns who deviates.
func (r *record) deviants() []api.Deviant {
	var l []api.Deviant
	closed, _ := r.find("close")
	for person := 1; person <= r.persons; person++ {
		sealed, posted := r.find("seal", person)
		opened, box := r.find("open", person)
		if opened > 0 && hashed(fmt.Sprintf("%d:%s:%s", person, box[0], box[1])) != posted[0] {
			l = append(l, api.Deviant{Person: person, Kind: 1, Seal: sealed, Line: opened})
		}
		if opened == 0 && closed > 0 {
			l = append(l, api.Deviant{Person: person, Kind: 2, Seal: sealed, Line: closed})
		}
	}
	return l
}

// value returns the number that was drawn.
func (r *record) value() (int, api.Errno) {
	if !r.over() {
		return 0, api.ErrState
	}
	if len(r.deviants()) > 0 {
		return 0, api.ErrDeviant
	}
	sum := 0
	for person := 1; person <= r.persons; person++ {
		_, box := r.find("open", person)
		sum += ok(number(box[0]))
	}
	return sum % r.below, api.OK
}

// report returns what the transcript says.
func (r *record) report() api.AuditReport {
	value, e := r.value()
	if e != api.OK {
		value = -1
	}
	return api.AuditReport{Below: r.below, Persons: r.persons, Over: r.over(), Value: value, Deviants: r.deviants()}
}

// text returns the transcript.
func (r *record) text() string { return strings.Join(r.said, "") }

// number returns the number that a text is.
func number(s string) (int, api.Errno) {
	n, err := strconv.Atoi(s)
	if err != nil {
		return 0, api.ErrForm
	}
	return n, api.OK
}

// say carries out a line of a transcript.
func (r *record) say(line string) api.Errno {
	seal, open := seals.FindStringSubmatch(line), opens.FindStringSubmatch(line)
	switch {
	case seal != nil:
		return r.seal(ok(number(seal[1])), seal[2])
	case open != nil:
		_, e := r.open(api.Box{Person: ok(number(open[1])), Value: ok(number(open[2])), Salt: open[3]})
		return e
	case line == "close\n":
		return r.close()
	}
	return api.ErrForm
}

// pieces returns the lines of a text.
func pieces(s string) []string {
	l := strings.SplitAfter(s, "\n")
	return l[:len(l)-1+min(len(l[len(l)-1]), 1)]
}

// audited reads a transcript in the document's words.
func audited(s string) (api.AuditReport, int, api.Errno) {
	if len(s) > 20000 {
		return api.AuditReport{}, 0, api.ErrLong
	}
	var r *record
	for k, line := range pieces(s) {
		if k > 0 {
			if e := r.say(line); e != api.OK {
				return api.AuditReport{}, k + 1, e
			}
			continue
		}
		draw := draws.FindStringSubmatch(line)
		if draw == nil {
			return api.AuditReport{}, 1, api.ErrForm
		}
		r = newRecord(ok(number(draw[1])), ok(number(draw[2])))
		if r.below < 1 || r.below > 1000000000 || r.persons < 1 || r.persons > 30 {
			return api.AuditReport{}, 1, api.ErrRange
		}
	}
	if r == nil {
		return api.AuditReport{}, 1, api.ErrForm
	}
	return r.report(), 0, api.OK
}

// equal reports whether two reports are the same: nil lists and empty ones are.
func equal(a, b api.AuditReport) bool {
	return a.Below == b.Below && a.Persons == b.Persons && a.Over == b.Over && a.Value == b.Value && slices.Equal(a.Deviants, b.Deviants)
}

// sealed returns a drawing in which the persons from 1 on have sealed these boxes.
func sealed(below int, boxes ...api.Box) *witness.Drawing {
	d := ok(witness.New(below, len(boxes)))
	for k, b := range boxes {
		ok(0, d.Seal(k+1, sealOf(b)))
	}
	return d
}

// played returns a drawing in which all boxes are sealed and opened.
func played(below int, boxes ...api.Box) *witness.Drawing {
	d := sealed(below, boxes...)
	for _, b := range boxes {
		ok(d.Open(b))
	}
	return d
}

// boxes returns boxes of the persons from 1 on with these values.
func boxes(values ...int) []api.Box {
	var l []api.Box
	for k, value := range values {
		l = append(l, api.Box{Person: k + 1, Value: value, Salt: "s" + strconv.Itoa(k)})
	}
	return l
}

// lists yields all lists of so many numbers below a number. Each is good until the next one.
func lists(size, below int) func(func([]int) bool) {
	return func(yield func([]int) bool) {
		l := make([]int, size)
		for yield(l) {
			k := 0
			for ; k < size && l[k] == below-1; k++ {
				l[k] = 0
			}
			if k == size {
				return
			}
			l[k]++
		}
	}
}

// same checks that a drawing is that of a record, and that its transcript is read so.
func same(t *testing.T, d *witness.Drawing, r *record) {
	t.Helper()
	value, e := d.Value()
	if want, wanted := r.value(); value != want || e != wanted {
		t.Fatalf("%q: value %v %v, want %v %v", r.said, value, e, want, wanted)
	}
	if l, e := d.Deviants(); !slices.Equal(l, r.deviants()) || e != api.OK {
		t.Fatalf("%q: deviants %v %v, want %v", r.said, l, e, r.deviants())
	}
	if s, e := d.Text(); s != r.text() || e != api.OK {
		t.Fatalf("%q: text %q %v", r.said, s, e)
	}
	if report, line, e := witness.Audit(r.text()); !equal(report, r.report()) || line != 0 || e != api.OK {
		t.Fatalf("%q: report %v %v %v, want %v", r.said, report, line, e, r.report())
	}
}
