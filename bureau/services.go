package bureau

import (
	"strconv"

	"astragal/api"
	"astragal/share"
	"astragal/witness"
)

// drawing is a drawing in public, of a number below another one.
type drawing struct {
	*witness.Drawing
	below int
}

// hasRota reports whether there is a rota.
func (b *Bureau) hasRota() bool { return b.rota != nil }

// hasDrawing reports whether there is a drawing.
func (b *Bureau) hasDrawing() bool { return b.drawing != nil }

// begin begins a rota.
func (b *Bureau) begin(w []word) (string, api.Errno) {
	r := api.Rota{Persons: w[0].number, Seats: w[1].number}
	if _, _, _, e := share.Due(r); e != api.OK {
		return "", e
	}
	b.rota = &r
	return answer(api.OK, done)
}

// due tells who must serve next, who may, and how many drawings are allowed.
func (b *Bureau) due([]word) (string, api.Errno) {
	must, may, many, e := share.Due(*b.rota)
	return answer(e, list(must), list(may), number(many))
}

// serve serves as a number says.
func (b *Bureau) serve(w []word) (string, api.Errno) { return b.served(w[0].number) }

// served tells who serves by a number, and adds this drawing to the past ones.
func (b *Bureau) served(n int) (string, api.Errno) {
	allowed, e := b.days.allowed()
	switch {
	case e != api.OK:
		return "", e
	case !allowed:
		return "", api.ErrState
	case len(b.rota.Past) >= api.MaxPast:
		return "", api.ErrFull
	}
	serving, e := share.Serve(*b.rota, n)
	if e != api.OK {
		return "", e
	}
	b.rota.Past = append(b.rota.Past, serving)
	return answer(api.OK, list(serving))
}

// draw begins a drawing.
func (b *Bureau) draw(w []word) (string, api.Errno) {
	d, e := witness.New(w[0].number, w[1].number)
	if e != api.OK {
		return "", e
	}
	b.drawing = &drawing{Drawing: d, below: w[0].number}
	return answer(api.OK, done)
}

// seal posts the hash of a person's box.
func (b *Bureau) seal(w []word) (string, api.Errno) {
	return answer(b.drawing.Seal(w[0].number, w[1].text), done)
}

// open opens a box.
func (b *Bureau) open(w []word) (string, api.Errno) {
	right, e := b.drawing.Open(api.Box{Person: w[0].number, Value: w[1].number, Salt: w[2].text})
	return answer(e, strconv.FormatBool(right))
}

// close ends the drawing.
func (b *Bureau) close([]word) (string, api.Errno) { return answer(b.drawing.Close(), done) }

// value tells the number that was drawn.
func (b *Bureau) value([]word) (string, api.Errno) {
	n, e := b.drawing.Value()
	return answer(e, number(n))
}

// deviants tells who deviates.
func (b *Bureau) deviants([]word) (string, api.Errno) {
	l, e := b.drawing.Deviants()
	var words []string
	for _, d := range l {
		words = append(words, numbers(":", d.Person, int(d.Kind), d.Seal, d.Line))
	}
	return answer(e, words...)
}

// lot serves as the number says that was drawn, and ends with the drawing.
func (b *Bureau) lot([]word) (string, api.Errno) {
	n, e := b.drawing.Value()
	if e != api.OK {
		return "", e
	}
	_, _, many, e := share.Due(*b.rota)
	switch {
	case e != api.OK:
		return "", e
	case b.drawing.below != many:
		return "", api.ErrState
	}
	text, e := b.served(n)
	if e == api.OK {
		b.drawing = nil
	}
	return text, e
}
