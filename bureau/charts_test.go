package bureau_test

import (
	"fmt"
	"strings"
	"testing"

	"astragal/api"
	"astragal/bureau"
	"astragal/hexagram"
	"astragal/house"
	"astragal/shield"
)

// road are the rows of the second example of chapter 3.
const road = "1,1,1,1,2,2,2,2,2,2,2,2,2,2,2,2"

// The second example of the chapter.
func TestExampleOfCharts(t *testing.T) {
	says(t, bureau.New(), "chart leaf 0 > 0", "figure leaf 14 > populus")
}

// P12.5: charts of rows and of numbers.
func TestCharts(t *testing.T) {
	says(t, bureau.New(), "sand road "+road+" > 61440", "chart same 61440 > 61440", "figure road 0 > via", "figure same 0 > via", "figure road 4 > laetitia", "figure same 15 > populus", "figure road 13 > populus", "figure road 12 > via", "chart last 65535 > 65535", "chart many 4660 > 4660", "figure many 0 > laetitia", "figure many 3 > albus")
	next := noise(125)
	for range 20 {
		number := next(65535)
		s := ok(shield.Derive(ok(shield.Mothers(number))))
		b := bureau.New()
		says(t, b, fmt.Sprintf("chart a %d > %d", number, number))
		for place, f := range s {
			says(t, b, fmt.Sprintf("figure a %d > %s", place, ok(shield.Name(f))))
		}
		h := ok(house.Of(s))
		for i := 1; i <= 12; i++ {
			for j := 1; j <= 12; j++ {
				if i == j {
					says(t, b, fmt.Sprintf("houses a %d %d > ErrTwice", i, j))
					continue
				}
				v := ok(house.Judge(h, i, j))
				says(t, b, fmt.Sprintf("houses a %d %d > %s", i, j, map[api.Verdict]string{1: "granted", 2: "helped", 3: "hardly", 4: "denied"}[v]))
			}
		}
	}
}

// P12.5: the errors of charts, in their order; 20 charts at most.
func TestRoomForCharts(t *testing.T) {
	b := bureau.New()
	says(t, b, "sand a 1 > ErrLong", "sand a - > ErrLong", "sand a 0 > ErrLong", "sand a "+road+",0 > ErrLong", "sand a 0"+road[1:]+" > ErrRange", "sand a 1001"+road[1:]+" > ErrRange", "sand a 1000"+road[1:]+" > 57344", "chart b 65536 > ErrRange", "chart b -1 > ErrRange", "figure b 0 > ErrNone")
	for k := range 19 {
		name := "z" + string(rune('a'+k))
		says(t, b, fmt.Sprint("chart ", name, " ", k, " > ", k), "chart "+name+" 65536 > ErrTwice", "sand "+name+" - > ErrTwice")
	}
	says(t, b, "chart b 0 > ErrFull", "chart b -1 > ErrFull", "sand b - > ErrFull", "sand b "+road+" > ErrFull", "chart za 0 > ErrTwice", "figure zs 3 > rubeus", "figure b 0 > ErrNone", "marks za 1 1 > 2", "marks b 1 1 > 2")
}

// P12.5: the errors of figures and houses, in their order.
func TestChartErrors(t *testing.T) {
	says(t, bureau.New(), "figure a 0 > ErrNone", "figure a 16 > ErrNone", "houses a 1 1 > ErrNone", "houses a 0 1 > ErrNone", "chart a 1", "figure a 16 > ErrRange", "figure a -1 > ErrRange", "figure a 15", "figure b 15 > ErrNone",
		"houses a 0 1 > ErrRange", "houses a 1 0 > ErrRange", "houses a 13 1 > ErrRange", "houses a 1 13 > ErrRange", "houses a 13 13 > ErrRange", "houses a 0 0 > ErrRange", "houses a 3 3 > ErrTwice", "houses a 12 12 > ErrTwice", "houses a 1 12")
}

// P12.5: copies and casts of lines, which need no chart that is kept.
func TestCopiesAndLines(t *testing.T) {
	b := bureau.New()
	zeros := strings.Repeat("0,", 15)
	says(t, b, "mend "+zeros+"0 > 0 1 0", "mend "+zeros+"1 > 1 1 0", "mend "+zeros+"16 > ErrArg", "mend "+zeros+"-1 > ErrArg", "mend - > ErrRange", "mend "+zeros+"0,0 > ErrRange", "mend "+zeros[:29]+" > ErrRange", "mend 16 > ErrRange",
		"lines 7,8,9,6,7,7 > 53 57", "lines 6,6,6,6,6,6 > 0 63", "lines 8,8,8,8,8,7 > 32 32", "lines - > ErrRange", "lines 7,8,9,6,7 > ErrRange", "lines 7,8,9,6,7,7,7 > ErrRange", "lines 5 > ErrRange", "lines 7,8,9,6,7,5 > ErrArg", "lines 10,8,9,6,7,7 > ErrArg")
	next := noise(1255)
	for range 30 {
		s := ok(shield.Derive(ok(shield.Mothers(next(65535)))))
		for range next(6) {
			s[next(15)] ^= 1 << next(3)
		}
		r := ok(shield.Mend(s))
		says(t, b, fmt.Sprintf("mend %s > %d %d %d", spread(",", s[:]...), r.Marks, r.Charts, ok(shield.Number(api.Mothers(r.Shield[:4])))))
		var lines [6]int
		for k := range lines {
			lines[k] = 6 + next(3)
		}
		first, second, _ := hexagram.Cast(lines)
		says(t, b, fmt.Sprintf("lines %s > %d %d", spread(",", lines[:]...), first, second))
	}
}

// P12.10: what pupils say, and how they did.
func TestLessons(t *testing.T) {
	b := bureau.New()
	says(t, b, "score > 0 0", "exam road 4 1 > ErrNone", "sand road "+road, "exam road 4 1 > right", "exam road 4 2 > wrong laetitia", "exam road 0 15 > right", "exam road 0 0 > wrong via", "exam road 15 0 > right", "score > 3 2",
		"exam none 16 16 > ErrNone", "exam road 16 16 > ErrRange", "exam road -1 -1 > ErrRange", "exam road 0 16 > ErrArg", "exam road 0 -1 > ErrArg", "score > 3 2", "figure road 4 > laetitia", "score > 3 2")
	for f := range 16 {
		says(t, b, fmt.Sprint("chart f", string(rune('a'+f)), " ", f*4096))
		for said := range 16 {
			want := "wrong " + ok(shield.Name(api.Figure(f)))
			if said == f {
				want = "right"
			}
			says(t, b, fmt.Sprint("exam f", string(rune('a'+f)), " 0 ", said, " > ", want))
		}
	}
	says(t, b, "score > 19 242")
}
