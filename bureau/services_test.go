package bureau_test

import (
	"fmt"
	"slices"
	"testing"

	"astragal/api"
	"astragal/bureau"
	"astragal/share"
)

// The fifth example of the chapter.
func TestExampleOfServices(t *testing.T) {
	says(t, bureau.New(), "rota 5 2 > ok", "due > - 0,1,2,3,4 10", "cycle 7 0", "allow m=2", "forbid c0=96", "day 5", "serve 0 > ErrState", "day 7", "serve 0 > 0,1")
}

// open returns a bureau in which all days are allowed.
func open(t *testing.T) *bureau.Bureau {
	t.Helper()
	b := bureau.New()
	says(t, b, "allow - > 0")
	return b
}

// P12.8: rotas, who serves, and the errors.
func TestRota(t *testing.T) {
	b := open(t)
	says(t, b, "due > ErrState", "serve 0 > ErrState", "serve -1 > ErrState", "rota 0 0 > ErrArg", "rota 21 1 > ErrArg", "rota 5 0 > ErrArg", "rota 5 6 > ErrArg", "rota 20 7 > ErrArg", "rota -1 -1 > ErrArg", "due > ErrState",
		"rota 5 2 > ok", "due > - 0,1,2,3,4 10", "serve -1 > ErrNone", "serve 10 > ErrNone", "serve 9 > 3,4", "due > - 0,1,2 3", "serve 3 > ErrNone", "serve 1 > 0,2", "due > 1 0,2,3,4 4", "serve 4 > ErrNone", "serve 3 > 1,4", "due > - 0,1,2,3 6",
		"rota 5 6 > ErrArg", "due > - 0,1,2,3 6", "rota 2 2 > ok", "due > 0,1 - 1", "serve 0 > 0,1", "serve 1 > ErrNone", "due > 0,1 - 1", "rota 1 1 > ok", "serve 0 > 0", "serve 0 > 0", "due > 0 - 1", "rota 20 6 > ok", "due > - "+numbersTo(20)+" 38760", "serve 38759 > 14,15,16,17,18,19")
}

// P12.8: nobody serves on a day that is not allowed, whatever the number is; a rota has room for 60 drawings.
func TestServeErrors(t *testing.T) {
	b := bureau.New()
	says(t, b, "rota 3 1", "serve 0 > ErrState", "serve 9 > ErrState", "allow 5..6", "serve 0 > ErrState", "day 5", "serve 3 > ErrNone", "serve 2 > 2", "day 6", "serve 1 > 1", "day 7", "serve 0 > ErrState", "due > 0 - 1", "allow -")
	for k := 2; k < 60; k++ {
		says(t, b, "serve 0")
	}
	says(t, b, "serve 0 > ErrFull", "serve 99 > ErrFull", "serve -1 > ErrFull", "due > - 0,1,2 3", "forbid -", "serve 0 > ErrState", "allow -", "serve 0 > ErrFull", "rota 3 1 > ok", "serve 2 > 2")
}

// P12.8: a rota serves as chapter 10 has it.
func TestServices(t *testing.T) {
	next := noise(128)
	for range 40 {
		r := api.Rota{Persons: 1 + next(7)}
		r.Seats = 1 + next(min(r.Persons, 6)-1)
		b := open(t)
		says(t, b, fmt.Sprintf("rota %d %d > ok", r.Persons, r.Seats))
		for range 12 {
			must, may, many, e := share.Due(r)
			if e != api.OK {
				t.Fatal(e)
			}
			n := next(many - 1)
			l := ok(share.Serve(r, n))
			says(t, b, fmt.Sprintf("due > %s %s %d", spread(",", must...), spread(",", may...), many), fmt.Sprintf("serve %d > ErrNone", many), fmt.Sprintf("serve %d > %s", n, spread(",", l...)))
			r.Past = append(r.Past, l)
		}
	}
}

// P12.9: drawings that are honest, and those with deviants.
func TestDrawings(t *testing.T) {
	b := bureau.New()
	says(t, b, "seal 1 x > ErrState", "open 1 0 x > ErrState", "close > ErrState", "value > ErrState", "deviants > ErrState", "lot > ErrState", "draw 0 1 > ErrRange", "draw 1 0 > ErrRange", "draw 1000000001 1 > ErrRange", "draw 1 31 > ErrRange", "draw -1 1 > ErrRange", "close > ErrState",
		"draw 12 2 > ok", "deviants > -", "value > ErrState", "close > ErrState", "seal 0 x > ErrNone", "seal 3 x > ErrNone", "seal 1 x > ErrForm", "seal 1 "+sealOf(1, 7, "oak")+" > ok", "seal 1 "+sealOf(1, 7, "oak")+" > ErrTwice", "open 1 7 oak > ErrState", "close > ErrState", "seal 2 "+sealOf(2, 9, "elm")+" > ok",
		"open 0 7 oak > ErrNone", "open 3 99 oak > ErrNone", "open 1 12 OAK > ErrRange", "open 1 -1 oak > ErrRange", "open 1 7 OAK > ErrForm", "open 1 7 oak > true", "open 1 7 oak > ErrTwice", "value > ErrState", "deviants > -", "open 2 9 elm > true", "value > 4", "deviants > -", "open 2 9 elm > ErrState", "close > ErrState", "seal 1 "+sealOf(1, 7, "oak")+" > ErrTwice", "value > 4",
		"draw 0 0 > ErrRange", "value > 4", "draw 12 3 > ok", "value > ErrState")
	for person := range 3 {
		says(t, b, fmt.Sprint("seal ", 3-person, " ", sealOf(3-person, person, "s"), " > ok"))
	}
	says(t, b, "open 2 0 s > false", "deviants > 2:1:3:5", "value > ErrState", "open 2 1 s > ErrTwice", "open 3 0 s > true", "deviants > 2:1:3:5", "close > ok", "deviants > 1:2:4:7 2:1:3:5", "value > ErrDeviant", "open 1 2 s > ErrState", "close > ErrState", "deviants > 1:2:4:7 2:1:3:5")
	says(t, bureau.New(), append(drawn(1000000000, 999999999, 999999999, 1), "value > 999999999", "deviants > -")...)
	says(t, bureau.New(), append(drawn(7, 1, 2, 3, 4, 5, 6, 0, 1, 2, 3, 4, 5, 6, 0, 1, 2, 3, 4, 5, 6, 0, 1, 2, 3, 4, 5, 6, 0, 1, 2), "value > 3")...)
	says(t, bureau.New(), "draw 5 1", "draw 6 2", "seal 2 "+sealOf(2, 5, "a"), "draw 6 2", "seal 2 "+sealOf(2, 5, "b"))
}

// P12.9: the errors of a lot, in their order; with an error the drawing stays.
func TestLotErrors(t *testing.T) {
	b := bureau.New()
	says(t, b, "lot > ErrState", "rota 3 1", "lot > ErrState", "draw 3 1", "lot > ErrState", "seal 1 "+sealOf(1, 2, "s"), "open 1 1 s > false", "lot > ErrDeviant")
	// A deviant is told ahead of a number of drawings that does not fit, and that ahead of a day that is not allowed.
	says(t, b, "draw 4 1", "seal 1 "+sealOf(1, 2, "s"), "open 1 1 s > false", "lot > ErrDeviant")
	says(t, b, drawn(3, 2)...)
	says(t, b, "lot > ErrState", "value > 2", "allow -", "lot > 2", "lot > ErrState", "value > ErrState", "deviants > ErrState", "seal 1 x > ErrState", "due > - 0,1 2")
	for _, below := range []int{1, 3, 4, 1000000000} {
		says(t, b, drawn(below, 0)...)
		says(t, b, "lot > ErrState", "value > 0", "due > - 0,1 2")
	}
	says(t, b, drawn(2, 1)...)
	says(t, b, "lot > 1", "due > 0 - 1")
	says(t, b, drawn(1, 0)...)
	says(t, b, "lot > 0", "due > - 0,1,2 3")
	// Without a rota a drawing that is over has no lot; a rota that comes later will do.
	b = open(t)
	says(t, b, drawn(10, 9, 8)...)
	says(t, b, "lot > ErrState", "value > 7", "rota 5 2", "lot > 2,3", "lot > ErrState")
}

// P12.9: a lot in a rota without room has ErrFull, but ErrState if the number of drawings does not fit.
func TestLotWithoutRoom(t *testing.T) {
	b := open(t)
	says(t, b, "rota 3 1")
	for range 60 {
		says(t, b, "serve 0")
	}
	says(t, b, drawn(2, 1)...)
	says(t, b, "lot > ErrState", "value > 1")
	says(t, b, drawn(3, 1)...)
	says(t, b, "lot > ErrFull", "value > 1", "forbid -", "lot > ErrState", "value > 1", "rota 3 1", "allow -", "lot > 1", "value > ErrState", "due > - 0,2 2")
}

// P12.12: whatever the boxes of the others are, the values of one honest person lead to each drawing that is allowed, each just once.
func TestLotDecides(t *testing.T) {
	next := noise(1212)
	for _, size := range [][3]int{{3, 1, 0}, {4, 2, 0}, {5, 2, 0}, {5, 2, 2}, {5, 3, 3}, {6, 4, 1}, {2, 2, 0}} {
		begin := []string{"allow -", fmt.Sprintf("rota %d %d", size[0], size[1])}
		r := api.Rota{Persons: size[0], Seats: size[1]}
		for range size[2] {
			begin = append(begin, "serve 0")
			r.Past = append(r.Past, ok(share.Serve(r, 0)))
		}
		_, _, many, _ := share.Due(r)
		for honest := range 3 {
			values := []int{next(many - 1), next(many - 1), next(many - 1)}
			var served, allowed []string
			for value := range many {
				b := bureau.New()
				says(t, b, begin...)
				values[honest] = value
				says(t, b, drawn(many, values...)...)
				n := toNumber(text(b, "value"))
				want := spread(",", ok(share.Serve(r, n))...)
				says(t, b, "lot > "+want)
				served = append(served, want)
				allowed = append(allowed, spread(",", ok(share.Serve(r, value))...))
			}
			slices.Sort(served)
			slices.Sort(allowed)
			if !slices.Equal(served, allowed) || len(slices.Compact(served)) != many {
				t.Error(size, honest, served, allowed)
			}
		}
	}
}

// P12.14: however a rota is served, nobody has served more than once more often than somebody else, and only on days that are allowed.
func TestNobodyTwice(t *testing.T) {
	next := noise(1214)
	for range 30 {
		b := bureau.New()
		persons := 2 + next(6)
		times := make([]int, persons)
		says(t, b, "cycle 7 0", "allow c0=42", fmt.Sprintf("rota %d %d", persons, 1+next(min(persons, 6)-1)))
		served := 0
		for day := range 60 {
			says(t, b, fmt.Sprint("day ", day))
			lines := []string{fmt.Sprint("serve ", next(30)), "serve 0"}
			if next(1) == 0 {
				below := 0
				fmt.Sscan(text(b, "due"), new(string), new(string), &below)
				lines = append(drawn(below, next(below-1), next(below-1)), "lot", "lot")
			}
			for _, line := range lines {
				answer, e := b.Line(line)
				if line != "lot" && line[:5] != "serve" || e != api.OK {
					continue
				}
				served++
				if k := day % 7; k != 1 && k != 3 && k != 5 {
					t.Error(day, line, answer)
				}
				for _, person := range toNumbers(answer, ",") {
					times[person]++
				}
				if slices.Max(times)-slices.Min(times) > 1 {
					t.Error(times)
				}
			}
		}
		if served < 20 {
			t.Error("hardly any", served)
		}
	}
}
