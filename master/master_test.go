package master_test

import (
	"math"
	"math/rand"
	"slices"
	"strconv"
	"strings"
	"sync"
	"testing"

	"steening/api"
	"steening/master"
)

// spots returns the numbers of a town, none of which can be below 0 unless it
// says so.
func spots() map[string]struct {
	of          func(t *api.MasterTown) *int
	least, most int
} {
	return map[string]struct {
		of          func(t *api.MasterTown) *int
		least, most int
	}{
		"hours":  {func(t *api.MasterTown) *int { return &t.Shaft.Rocks[0].Hours }, 0, 9},
		"pence":  {func(t *api.MasterTown) *int { return &t.Shaft.Rocks[1].Pence }, 0, 99},
		"stand":  {func(t *api.MasterTown) *int { return &t.Shaft.Rocks[0].Stand }, 0, 12},
		"seat":   {func(t *api.MasterTown) *int { return &t.Shaft.Rocks[1].Seat }, -1, 99},
		"foot":   {func(t *api.MasterTown) *int { return &t.Shaft.Feet[3] }, 0, 1},
		"deep":   {func(t *api.MasterTown) *int { return &t.Shaft.Deep }, 0, 9},
		"haul":   {func(t *api.MasterTown) *int { return &t.Shaft.Haul }, 0, 9},
		"rest":   {func(t *api.MasterTown) *int { return &t.Shaft.Rest }, 0, 9},
		"wants":  {func(t *api.MasterTown) *int { return &t.Buckets.Houses[2] }, 0, 9},
		"has":    {func(t *api.MasterTown) *int { return &t.Buckets.Wells[1] }, 0, 20},
		"house":  {func(t *api.MasterTown) *int { return &t.Buckets.Ways[3].House }, 2, 2},
		"well":   {func(t *api.MasterTown) *int { return &t.Buckets.Ways[3].Well }, 0, 1},
		"size":   {func(t *api.MasterTown) *int { return &t.Year.Size }, 5, 60},
		"start":  {func(t *api.MasterTown) *int { return &t.Year.Start }, 0, 10},
		"low":    {func(t *api.MasterTown) *int { return &t.Year.Days[1].Rain.Low }, 0, 9},
		"high":   {func(t *api.MasterTown) *int { return &t.Year.Days[1].Rain.High }, 6, 20},
		"wanted": {func(t *api.MasterTown) *int { return &t.Year.Days[0].Want }, 0, 20},
	}
}

// invalid returns towns that are not valid, each for one reason.
func invalid() map[string]api.MasterTown {
	towns := map[string]api.MasterTown{
		"a foot, no rock": {Shaft: api.Shaft{Feet: list(0)}},
		"a way, nowhere":  {Buckets: api.BucketTown{Ways: ways(0, 0)}},
		"a start, no size": {
			Year: api.CisternYear{Start: 1},
		},
	}
	for name, s := range spots() {
		for what, n := range map[string]int{"less": s.least - 1, "least": math.MinInt, "more": s.most + 1, "most": math.MaxInt} {
			towns[name+" "+what] = with(townM(), func(t *api.MasterTown) { *s.of(t) = n })
		}
	}
	for name, change := range map[string]func(t *api.MasterTown){
		"5 rocks":     func(t *api.MasterTown) { t.Shaft.Rocks = slices.Repeat(t.Shaft.Rocks[:1], 5) },
		"13 feet":     func(t *api.MasterTown) { t.Shaft.Feet = make([]int, 13) },
		"7 houses":    func(t *api.MasterTown) { t.Buckets.Houses = make([]int, 7) },
		"6 wells":     func(t *api.MasterTown) { t.Buckets.Wells = make([]int, 6) },
		"a way twice": func(t *api.MasterTown) { t.Buckets.Ways[1] = t.Buckets.Ways[0] },
		"other order": func(t *api.MasterTown) { slices.Reverse(t.Buckets.Ways) },
		"9 days":      func(t *api.MasterTown) { t.Year.Days = slices.Repeat(t.Year.Days[:1], 9) },
		"13 ways": func(t *api.MasterTown) {
			*t = widest()
			t.Buckets.Ways = append(t.Buckets.Ways[:10:10], ways(5, 0, 5, 1, 5, 2)...)
		},
		"all of it": func(t *api.MasterTown) { t.Shaft.Deep, t.Buckets.Houses[0], t.Year.Size = 10, 10, 61 },
	} {
		towns[name] = with(townM(), change)
	}
	return towns
}

func TestP12_1Check(t *testing.T) {
	for n, town := range plain() {
		if e := master.Check(town); e != api.OK || !isTown(town) {
			t.Errorf("%d: Check = %d", n, e)
		}
	}
	for name, s := range spots() {
		for _, n := range list(s.least, s.most) {
			if town := with(townM(), func(t *api.MasterTown) { *s.of(t) = n }); master.Check(town) != api.OK {
				t.Errorf("%s %d: Check = %d", name, n, master.Check(town))
			}
		}
	}
	for name, town := range invalid() {
		if e := master.Check(town); e != api.ErrMaster || isTown(town) {
			t.Errorf("%s: Check = %d", name, e)
		}
		// ErrMaster is named first, also if there are too many lines.
		for _, many := range list(0, 1, 30, 31, 1000) {
			answers, after, e := master.Run(town, slices.Repeat([]string{"up"}, many))
			if len(answers) != 0 || !same(after, api.MasterTown{}) || e != api.ErrMaster {
				t.Errorf("%s: Run of %d lines = %q, %v, %d", name, many, answers, after, e)
			}
		}
	}
}

func TestP12_2Examples(t *testing.T) {
	town := townM()
	for _, x := range [][2]string{
		{
			"cheap; fewest; deep 10; next 1; next 2; begin; foot 1; cheap; drop; cheap; end; lacks; most; draws 0; short; dry 0",
			"17; 2; 3; -7; wrong; ok; ok; 10; ok; 17; no; 2 2 1; 7; 3 to 4; 0; 1",
		},
		{
			"keep m most; want 2 1; most; has 0 m; lacks; least; ration; level 1; spare 3; empty; size 8; empty; spare 0; size x; size 4; level 4",
			"7; ok; 7; ok; 0 0 0; 9; 20; 8 to 8; 2; none; ok; 2; none; unknown; no; wrong",
		},
	} {
		var answers []string
		answers, town = run(town, lines(x[0])...)
		if !slices.Equal(answers, lines(x[1])) {
			t.Errorf("%s: %q", x[0], answers)
		}
	}
	want := with(townM(), func(t *api.MasterTown) { t.Buckets.Houses[2], t.Buckets.Wells[0], t.Year.Size = 1, 7, 8 })
	if !same(town, want) {
		t.Errorf("the town is %v", town)
	}
}

// changeCase is a line that is done, and what becomes of the town.
type changeCase struct {
	line   string
	change func(t *api.MasterTown)
}

func TestP12_2Changes(t *testing.T) {
	for _, x := range []changeCase{
		{"rock 1 2 3 4", func(t *api.MasterTown) { t.Shaft.Rocks = append(t.Shaft.Rocks, rock(1, 2, 3, 4)) }},
		{"rock 0 0 0 -1", func(t *api.MasterTown) { t.Shaft.Rocks = append(t.Shaft.Rocks, rock(0, 0, 0, -1)) }},
		{"rock 9 99 12 99", func(t *api.MasterTown) { t.Shaft.Rocks = append(t.Shaft.Rocks, rock(9, 99, 12, 99)) }},
		{"foot 0", func(t *api.MasterTown) { t.Shaft.Feet = list(1, 0, 1, 0, 0) }},
		{"foot 1", func(t *api.MasterTown) { t.Shaft.Feet = list(1, 0, 1, 0, 1) }},
		{"up", func(t *api.MasterTown) { t.Shaft.Feet = list(1, 0, 1) }},
		{"house 0", func(t *api.MasterTown) { t.Buckets.Houses = list(5, 4, 3, 0) }},
		{"house 9", func(t *api.MasterTown) { t.Buckets.Houses = list(5, 4, 3, 9) }},
		{"well 0", func(t *api.MasterTown) { t.Buckets.Wells = list(4, 3, 0) }},
		{"well 20", func(t *api.MasterTown) { t.Buckets.Wells = list(4, 3, 20) }},
		{"want 0 9", func(t *api.MasterTown) { t.Buckets.Houses = list(9, 4, 3) }},
		{"want 2 0", func(t *api.MasterTown) { t.Buckets.Houses = list(5, 4, 0) }},
		{"want 1 4", func(*api.MasterTown) {}},
		{"has 0 20", func(t *api.MasterTown) { t.Buckets.Wells = list(20, 3) }},
		{"has 1 0", func(t *api.MasterTown) { t.Buckets.Wells = list(4, 0) }},
		{"way 0 1", func(t *api.MasterTown) { t.Buckets.Ways = ways(0, 0, 0, 1, 1, 0, 1, 1, 2, 1) }},
		{"way 2 0", func(t *api.MasterTown) { t.Buckets.Ways = ways(0, 0, 1, 0, 1, 1, 2, 0, 2, 1) }},
		{"day 0 0 0", func(t *api.MasterTown) { t.Year.Days = append(t.Year.Days, day(0, 0, 0)) }},
		{"day 1 2 3", func(t *api.MasterTown) { t.Year.Days = append(t.Year.Days, day(1, 2, 3)) }},
		{"day 20 20 20", func(t *api.MasterTown) { t.Year.Days = append(t.Year.Days, day(20, 20, 20)) }},
		{"size 5", func(t *api.MasterTown) { t.Year.Size = 5 }},
		{"size 60", func(t *api.MasterTown) { t.Year.Size = 60 }},
		{"size 10", func(*api.MasterTown) {}},
	} {
		want := with(townM(), x.change)
		if answers, after := run(townM(), x.line); answers[0] != "ok" || !same(after, want) {
			t.Errorf("%s: %q, %v", x.line, answers, after)
		}
	}
}

func TestP12_2Refused(t *testing.T) {
	for name, x := range map[string]struct {
		t     api.MasterTown
		lines string
	}{
		"numbers":  {townM(), "rock 10 0 0 0; rock 0 100 0 0; rock 0 0 13 0; rock 0 0 0 100; rock 0 0 0 -2; rock -1 0 0 0; rock 0 -1 0 0; rock 0 0 -1 0"},
		"feet":     {townM(), "foot 2; foot -1; foot 999999; foot -999999"},
		"houses":   {townM(), "house -1; house 10; house 999999; want 0 -1; want 2 10; want 3 0; want -1 0; want 999999 1; want -999999 1"},
		"wells":    {townM(), "well -1; well 21; has 0 -1; has 1 21; has 2 0; has -1 0; has 999999 1; has -999999 1"},
		"ways":     {townM(), "way 0 0; way 1 1; way 2 1; way 3 0; way 0 2; way -1 0; way 0 -1; way 2 2; way 3 2; way 999999 0"},
		"days":     {townM(), "day -1 0 0; day 1 0 0; day 0 21 0; day 21 21 0; day 0 0 21; day 0 0 -1; day 20 19 0"},
		"size":     {townM(), "size 4; size 61; size -1; size 0; size 999999"},
		"tries":    {townM(), "end; drop; end; drop"},
		"nothing":  {api.MasterTown{}, "up; foot 0; want 0 0; has 0 0; way 0 0; size 61; size -1; end; drop"},
		"the most": {widest(), "rock 0 0 0 0; foot 0; house 0; well 0; way 0 1; way 5 3; day 0 0 0; size 59"},
		// A rock, a house or a well that there will be is not yet there.
		"too early": {with(townM(), func(t *api.MasterTown) { t.Buckets.Wells = nil; t.Buckets.Ways = nil }), "way 0 0; has 0 3; foot 3"},
	} {
		all := lines(x.lines)
		answers, after := run(x.t, all...)
		if !slices.Equal(answers, slices.Repeat([]string{"no"}, len(all))) || !same(after, x.t) {
			t.Errorf("%s: %q, %v", name, answers, after)
		}
	}
}

func TestP12_2Full(t *testing.T) {
	for _, x := range []struct {
		line string
		most int
	}{{"rock 1 1 1 1", 4}, {"house 9", 6}, {"well 20", 5}, {"day 0 20 20", 8}} {
		answers, after := run(api.MasterTown{}, slices.Repeat([]string{x.line}, 30)...)
		want := slices.Concat(slices.Repeat([]string{"ok"}, x.most), slices.Repeat([]string{"no"}, 30-x.most))
		if !slices.Equal(answers, want) || !isTown(after) {
			t.Errorf("%s: %q", x.line, answers)
		}
	}
	answers, after := run(api.MasterTown{}, append([]string{"rock 0 0 0 0"}, slices.Repeat([]string{"foot 0"}, 14)...)...)
	if strings.Join(answers, "") != strings.Repeat("ok", 13)+"nono" || len(after.Shaft.Feet) != 12 {
		t.Errorf("foot: %q", answers)
	}
	// The thirteenth way is refused, also if its place is between others.
	twelve := widest()
	eleven := with(twelve, func(t *api.MasterTown) { t.Buckets.Ways = slices.Delete(t.Buckets.Ways, 5, 6) })
	answers, after = run(eleven, "way 2 2", "way 2 3", "way 0 1", "way 5 3", "way 2 2")
	if strings.Join(answers, " ") != "ok no no no no" || !same(after, twelve) {
		t.Errorf("way: %q, %v", answers, after)
	}
}

// notClear returns lines that are not clear.
func notClear() []string {
	all := []string{
		"", " ", "  ", "x", "7", "-", "ok", "what", "Up", "UP", "u", "upp", "up ", " up", "up\n", "\nup", "up\t", "up;", "begin begin", "end.", "\x00", "up\x00", "\xff", "süd", "up\u00a0",
		"foot", "foot ", "foot  1", "foot 1 ", " foot 1", "foot\t1", "foot1", "foot 1\n", "foot 1 1", "foot,1", "Foot 1", "foot -", "foot --1", "foot +1", "foot 01", "foot 00", "foot -0", "foot -01", "foot 1.0", "foot 1e0", "foot 0x1", "foot 1_0", "foot ½", "foot ١", "foot 1a", "foot a1", "foot aa", "foot ab", "foot A", "foot Z", "foot `", "foot {", "foot @", "foot ä", "foot -a", "foot +a", "foot 1000000", "foot -1000000", "foot 0000001", "foot 9999999999999999999", "foot -9999999999999999999", "foot 18446744073709551617", "foot up", "foot most", "foot  ",
		"rock 1 1 1  1", "rock  1 1 1 1", "rock 1 1 1 1 ", "want 1", "want 1 ", "want  1 1", "way 1-1", "way 1,1", "day 1 to 2 3", "size", "size ten",
		"keep", "keep ", "keep m", "keep m ", "keep  m most", "keep m  most", "keep m most ", " keep m most", "keep m most 1", "keep M most", "keep mm most", "keep 1 most", "keep - most", "keep most", "keep most m", "keep m most m", "most m", "m most", "keep m m", "keep m 7", "keep m keep m most", "keep m keep n most", "keepm most", "Keep m most", "keep ä most", "keep { most", "keep ` most", "keep m deep", "keep m deep ", "keep m deep 01", "keep m deep 1 1", "keep m lacks 0", "keep m draws", "keep m nothing",
		// Only lines that ask can be kept.
		"keep m begin", "keep m end", "keep m drop", "keep m up", "keep m foot 1", "keep m size 7", "keep m rock 1 1 1 1", "keep m house 1", "keep m well 1", "keep m want 1 1", "keep m has 1 1", "keep m way 0 1", "keep m day 1 1 1",
	}
	change, try, number, other := words()
	for _, known := range []map[string]int{change, try, number, other} {
		for word, right := range known {
			for many := range 7 {
				if text := word + strings.Repeat(" 0", many); many != right {
					all = append(all, text, "keep a "+text)
				}
			}
		}
	}
	return all
}

func TestP12_2NotClear(t *testing.T) {
	for _, text := range notClear() {
		answers, after := run(townM(), text, "cheap", text, "keep m most", text)
		if strings.Join(answers, ";") != "what;17;what;7;what" || !same(after, townM()) {
			t.Errorf("%q: %q, %v", text, answers, after)
		}
		// An unclear line opens and closes nothing, either, and has no letters that
		// are not known.
		answers, after = run(townM(), "begin", "up", text, "drop", "drop")
		if strings.Join(answers, " ") != "ok ok what ok no" || !same(after, townM()) {
			t.Errorf("%q: %q, %v", text, answers, after)
		}
	}
	// All that has the right form is clear.
	change, try, number, other := words()
	for _, known := range []map[string]int{change, try, number, other} {
		for word, many := range known {
			for _, argument := range []string{"0", "1", "-1", "-9", "10", "999999", "-999999", "100000"} {
				text := word + strings.Repeat(" "+argument, many)
				if answers, _ := run(townM(), text); answers[0] == "what" || answers[0] == "unknown" {
					t.Errorf("%s: %q", text, answers)
				}
			}
		}
	}
}

func TestP12_2Unknown(t *testing.T) {
	change, _, number, other := words()
	for letter := 'a'; letter <= 'z'; letter++ {
		for _, known := range []map[string]int{change, number, other} {
			for word, many := range known {
				for place := range many {
					arguments := slices.Repeat([]string{"0"}, many)
					arguments[place] = string(letter)
					text := word + " " + strings.Join(arguments, " ")
					if answers, after := run(townM(), text); answers[0] != "unknown" || !same(after, townM()) {
						t.Errorf("%s: %q, %v", text, answers, after)
					}
				}
			}
		}
	}
	for _, x := range [][2]string{
		// It does not matter what else is wrong, or is known.
		{"want 9 a; want a 99; way a b; size z; keep q deep q", "unknown; unknown; unknown; unknown; unknown"},
		{"keep a most; want a b; want b a; want a a; draws a; draws b", "7; unknown; unknown; no; wrong; unknown"},
		{"keep a deep b; keep b deep a; foot a; foot b", "unknown; unknown; unknown; unknown"},
		// A letter under which no number came to be kept is not known.
		{"keep a lacks; keep b draws 0; keep c empty; keep d next 9; keep e short; keep f level 0", "2 2 1; 3 to 4; none; wrong; 0; 4 to 6"},
		{"keep a lacks; size a; keep b draws 0; size b; keep c empty; size c; keep d next 9; size d; keep e short; size e; keep f level 0; size f", "2 2 1; unknown; 3 to 4; unknown; none; unknown; wrong; unknown; 0; unknown; 4 to 6; unknown"},
	} {
		if answers, after := run(townM(), lines(x[0])...); !slices.Equal(answers, lines(x[1])) || !same(after, townM()) {
			t.Errorf("%s: %q, %v", x[0], answers, after)
		}
	}
}

func TestP12_2Keep(t *testing.T) {
	// What is kept under a letter is the Size.
	for _, x := range []struct {
		lines, answers string
		size           int
	}{
		{"keep a cheap; size a", "17; ok", 17},
		{"keep z cheap; size z", "17; ok", 17},
		{"keep a ration; keep b cheap; size a", "20; 17; ok", 20},
		{"keep a ration; keep a cheap; size a", "20; 17; ok", 17},
		{"keep a ration; keep b cheap; size b; size a", "20; 17; ok; ok", 20},
		// The letter does not become another number by itself.
		{"keep a cheap; foot 1; cheap; size a", "17; ok; 10; ok", 17},
		{"foot 1; keep a cheap; up; cheap; size a", "ok; 10; ok; 17; ok", 10},
		// What is no number leaves what was kept.
		{"keep a cheap; keep a lacks; size a", "17; 2 2 1; ok", 17},
		{"keep a cheap; keep a short; size a", "17; 0; ok", 17},
		{"keep a cheap; keep a draws 0; size a", "17; 3 to 4; ok", 17},
		{"keep a cheap; keep a level 1; size a", "17; 8 to 8; ok", 17},
		{"keep a cheap; keep a empty; size a", "17; none; ok", 17},
		{"keep a cheap; keep a deep -1; size a", "17; wrong; ok", 17},
		{"keep a cheap; keep a deep b; size a", "17; unknown; ok", 17},
		{"keep a cheap; keep a deep; size a", "17; what; ok", 17},
		{"keep a cheap; keep a size 9; size a", "17; what; ok", 17},
		// A number that is an argument is the one from before.
		{"keep a cheap; keep a deep a; keep b deep a; size a", "17; 4; 1; no", 10},
		{"keep a ration; keep a deep a; has 0 a; most; size 7", "20; 4; ok; 7; ok", 7},
		// Numbers below 0 are kept, too.
		{"keep n next 1; size n; deep n; has 0 n; size 6", "-7; no; wrong; no; ok", 6},
		{"keep a spare 3; keep b dry 0; keep c fewest; keep d least; size d", "2; 1; 2; 9; ok", 9},
		// Letters that are the same number.
		{"keep a fewest; keep b spare 3; draws a; draws b; want a b; lacks", "2; 2; 1 to 2; 1 to 2; ok; 2 1 1", 10},
	} {
		answers, after := run(townM(), lines(x.lines)...)
		if !slices.Equal(answers, lines(x.answers)) || after.Year.Size != x.size {
			t.Errorf("%s: %q, %d", x.lines, answers, after.Year.Size)
		}
	}
	// Each function that returns a number can be kept.
	for _, x := range []struct {
		line string
		n    int
	}{{"fewest", 2}, {"cheap", 17}, {"deep 10", 3}, {"next 0", 2}, {"most", 7}, {"dry 0", 1}, {"least", 9}, {"ration", 20}, {"spare 3", 2}} {
		answers, after := run(townM(), "keep k "+x.line, "well k")
		if answers[0] != strconv.Itoa(x.n) || answers[1] != "ok" || !slices.Equal(after.Buckets.Wells, list(4, 3, x.n)) {
			t.Errorf("%s: %q, %v", x.line, answers, after)
		}
	}
	answers, after := run(townM(), "size 8", "keep k empty", "well k")
	if strings.Join(answers, " ") != "ok 2 ok" || !slices.Equal(after.Buckets.Wells, list(4, 3, 2)) {
		t.Errorf("empty: %q, %v", answers, after)
	}
	// Each letter has a number of its own.
	var all, want []string
	for letter := 'a'; letter <= 'z'; letter++ {
		all, want = append(all, "keep "+string(letter)+" most"), append(want, "7")
	}
	all, want = append(all, "keep m ration", "well l", "well m", "well n"), append(want, "20", "ok", "ok", "ok")
	if answers, after := run(townM(), all...); !slices.Equal(answers, want) || !slices.Equal(after.Buckets.Wells, list(4, 3, 7, 20, 7)) {
		t.Errorf("all letters: %q, %v", answers, after)
	}
}

func TestP12_2Tries(t *testing.T) {
	for _, x := range []struct {
		lines, answers string
		sizes          int // the Size in the end
	}{
		{"begin; size 20; drop", "ok; ok; ok", 10},
		{"begin; size 20; end", "ok; ok; ok", 20},
		{"begin; size 20", "ok; ok", 20},
		{"begin; begin; size 20; begin", "ok; ok; ok; ok", 20},
		// The one that was opened last is closed.
		{"begin; size 20; begin; size 30; drop; drop", "ok; ok; ok; ok; ok; ok", 10},
		{"begin; size 20; begin; size 30; drop; end", "ok; ok; ok; ok; ok; ok", 20},
		{"begin; size 20; begin; size 30; end; drop", "ok; ok; ok; ok; ok; ok", 10},
		{"begin; size 20; begin; size 30; end; end", "ok; ok; ok; ok; ok; ok", 30},
		{"begin; size 20; begin; size 30; drop", "ok; ok; ok; ok; ok", 20},
		{"begin; size 20; begin; size 30; drop; size 40; drop", "ok; ok; ok; ok; ok; ok; ok", 10},
		{"begin; size 20; begin; drop; begin; size 30; end; begin; drop; drop", "ok; ok; ok; ok; ok; ok; ok; ok; ok; ok", 10},
		{"begin; begin; begin; size 20; drop; size 30; drop; size 40; end; end", "ok; ok; ok; ok; ok; ok; ok; ok; ok; no", 40},
		// A try that was closed is not open.
		{"begin; size 20; end; drop", "ok; ok; ok; no", 20},
		{"begin; size 20; drop; drop", "ok; ok; ok; no", 10},
		{"begin; size 20; drop; end; size 30; end", "ok; ok; ok; no; ok; no", 30},
		{"end; begin; drop; drop; begin; end; end", "no; ok; ok; no; ok; ok; no", 10},
		{"begin; size 20; end; begin; size 30; drop", "ok; ok; ok; ok; ok; ok", 20},
		{"begin; size 20; begin; size 30; end; end; drop", "ok; ok; ok; ok; ok; ok; no", 30},
		// What is refused is not done, and not what was done before.
		{"size 20; begin; size 4; drop", "ok; ok; no; ok", 20},
		{"begin; size 20; size 4; end", "ok; ok; no; ok", 20},
		// Letters are again as they were, with the numbers that they had.
		{"begin; keep a cheap; drop; size a", "ok; 17; ok; unknown", 10},
		{"begin; keep a cheap; end; size a", "ok; 17; ok; ok", 17},
		{"keep a ration; begin; keep a cheap; drop; size a", "20; ok; 17; ok; ok", 20},
		{"keep a ration; begin; keep a cheap; end; size a", "20; ok; 17; ok; ok", 17},
		{"keep a ration; begin; keep a cheap; size a; drop", "20; ok; 17; ok; ok", 10},
		{"keep a ration; begin; keep a cheap; begin; keep a least; drop; size a", "20; ok; 17; ok; 9; ok; ok", 17},
		{"keep a ration; begin; keep a cheap; begin; keep a least; drop; drop; size a", "20; ok; 17; ok; 9; ok; ok; ok", 20},
		{"keep a ration; begin; keep a cheap; begin; keep a least; end; drop; size a", "20; ok; 17; ok; 9; ok; ok; ok", 20},
		{"begin; keep a cheap; begin; keep b ration; drop; size b; size a", "ok; 17; ok; 20; ok; unknown; ok", 17},
	} {
		answers, after := run(townM(), lines(x.lines)...)
		want := with(townM(), func(t *api.MasterTown) { t.Year.Size = x.sizes })
		if !slices.Equal(answers, lines(x.answers)) || !same(after, want) {
			t.Errorf("%s: %q, %v", x.lines, answers, after)
		}
	}
	// All parts of the town are again as they were.
	change := "begin; rock 1 1 1 1; up; foot 2; house 1; well 1; want 0 0; has 0 0; way 0 1; way 3 2; day 1 1 1; size 7"
	for _, end := range []string{"; drop", "; begin; up; has 1 1; end; drop", "; begin; up; up; want 1 1; drop; drop"} {
		if answers, after := run(townM(), lines(change+end)...); slices.ContainsFunc(answers, func(a string) bool { return a != "ok" }) || !same(after, townM()) {
			t.Errorf("%s: %q, %v", change+end, answers, after)
		}
	}
	// As many tries can be open as there can be lines.
	deep := slices.Concat(slices.Repeat([]string{"begin", "up"}, 4), slices.Repeat([]string{"drop"}, 5))
	if answers, after := run(townM(), deep...); strings.Join(answers, "") != strings.Repeat("ok", 12)+"no" || !same(after, townM()) {
		t.Errorf("%q: %q, %v", deep, answers, after)
	}
	if answers, after := run(townM(), slices.Repeat([]string{"begin"}, 30)...); strings.Join(answers, "") != strings.Repeat("ok", 30) || !same(after, townM()) {
		t.Errorf("begin: %q, %v", answers, after)
	}
}

func TestP12_2Answers(t *testing.T) {
	nothing := api.MasterTown{}
	for _, x := range []struct {
		t              api.MasterTown
		lines, answers string
	}{
		{nothing, "fewest; cheap; deep 0; next 0; most; lacks; draws 0; dry 0; short; empty; least; ration; spare 0; level 0", "0; 0; 0; wrong; 0; nothing; wrong; wrong; none; none; 0; 20; wrong; wrong"},
		// The errors of the functions are ErrArg, ErrMany and ErrNone.
		{widest(), "next 0; next 4; next -1", "wrong; wrong; wrong"},
		{with(widest(), func(t *api.MasterTown) { t.Shaft.Rocks[3].Seat = -1 }), "fewest; cheap; next 0; up; next 0; next 4; deep 9999; deep 10000; deep -1", "none; none; wrong; ok; none; wrong; 0; wrong; wrong"},
		// A list of one number, and spans of one.
		{townM(), "short; level 0; level 2; draws 2; has 1 0; draws 2; lacks; short", "0; 4 to 6; 1 to 1; 1 to 2; ok; 0 to 0; 3 3 2; 0"},
		{townM(), "want 0 9; want 1 9; short; want 0 0; want 1 1; want 2 1; short; lacks; dry 0; dry 1", "ok; ok; 0; ok; ok; ok; none; 0 0 0; 2; 2"},
		{with(townM(), func(t *api.MasterTown) { t.Buckets.Wells = list(9, 0) }), "short; has 0 0; short; want 0 0; want 1 0; want 2 0; short", "2; ok; 0; ok; ok; ok; none"},
		{with(townM(), func(t *api.MasterTown) { t.Buckets.Houses = list(4, 0, 3) }), "short; want 0 5; short; has 0 5; short; want 1 3; short; dry 0", "none; ok; 0; ok; none; ok; 0 1 2; 1"},
		// Each answer is of the town as it is at its line.
		{townM(), "cheap; up; cheap; up; cheap; up; cheap; up; cheap; up; cheap", "17; ok; 6; ok; 13; ok; 2; ok; 0; no; 0"},
		{nothing, "day 0 0 5; empty; least; size 9; day 9 9 0; empty; ration; level 1", "ok; 0; none; ok; ok; 0; 0; 9 to 9"},
	} {
		if answers, _ := run(x.t, lines(x.lines)...); !slices.Equal(answers, lines(x.answers)) {
			t.Errorf("%s: %q", x.lines, answers)
		}
	}
}

func TestP12_2Many(t *testing.T) {
	for _, town := range plain() {
		for _, many := range list(0, 1, 29, 30) {
			answers, after, e := master.Run(town, slices.Repeat([]string{"lacks"}, many))
			if len(answers) != many || !same(after, town) || e != api.OK {
				t.Errorf("Run(%v) of %d lines = %q, %v, %d", town, many, answers, after, e)
			}
		}
		// All lines count, also those that do nothing.
		for _, many := range list(31, 32, 60, 1000) {
			for _, text := range []string{"size 60", "", "begin", "what", "most"} {
				answers, after, e := master.Run(town, slices.Repeat([]string{text}, many))
				if len(answers) != 0 || !same(after, api.MasterTown{}) || e != api.ErrMany {
					t.Errorf("Run(%v) of %d lines %s = %q, %v, %d", town, many, text, answers, after, e)
				}
			}
		}
		for _, none := range [][]string{nil, {}} {
			if answers, after, e := master.Run(town, none); len(answers) != 0 || !same(after, town) || e != api.OK {
				t.Errorf("Run(%v) of no lines = %q, %v, %d", town, answers, after, e)
			}
		}
	}
}

func TestP12_2Run(t *testing.T) {
	counts := map[string]int{}
	each(2, 5000, func(r *rand.Rand, town api.MasterTown) {
		all := some(r, 30, someLine, 2)
		answers, after := run(town, all...)
		want, wanted := modelled(town, all)
		if !slices.Equal(answers, want) || !same(after, wanted) {
			t.Fatalf("Run(%v, %q) = %q, %v, not %q, %v", town, all, answers, after, want, wanted)
		}
		for n, text := range all {
			answer := answers[n]
			if !slices.Contains([]string{"ok", "no", "what", "unknown", "none", "wrong", "nothing"}, answer) {
				answer = strings.Trim(answer, "-0123456789")
			}
			word := strings.Split(text, " ")[0]
			counts[answer]++
			counts[word+" "+answer]++
			if hasLetter(text) && answer != "unknown" {
				counts["letter"]++
			}
		}
	})
	for _, what := range []string{"ok", "no", "what", "unknown", "none", "wrong", "nothing", "", " to ", "letter", "drop ok", "end ok", "drop no", "end no", "rock ok", "foot ok", "up ok", "up no", "house ok", "well ok", "want ok", "has ok", "way ok", "day ok", "size ok", "keep "} {
		if counts[what] < 100 {
			t.Errorf("not all was tried: %q %d", what, counts[what])
		}
	}
}

// spare returns a list that has room for one element more, which is there.
func spare[T any](list []T, last T) []T {
	return append(slices.Clone(list), last)[:len(list)]
}

// last returns what lies behind a list that spare returned.
func last[T any](list []T) T {
	return list[:len(list)+1][len(list)]
}

// spoil changes all that a list has room for.
func spoil[T any](list []T, with T) {
	for n := range list[:cap(list)] {
		list[:cap(list)][n] = with
	}
}

func TestMemory(t *testing.T) {
	each(3, 500, func(r *rand.Rand, town api.MasterTown) {
		all := some(r, 29, someLine, 2)
		kept, keptLines := clone(town), slices.Clone(all)
		// What lies behind the lists is the caller's, too.
		s, b, y := &town.Shaft, &town.Buckets, &town.Year
		s.Rocks, s.Feet, b.Houses, b.Wells = spare(s.Rocks, rock(7, 7, 7, 7)), spare(s.Feet, 77), spare(b.Houses, 78), spare(b.Wells, 79)
		b.Ways, y.Days, all = spare(b.Ways, ways(8, 8)[0]), spare(y.Days, day(1, 2, 3)), spare(all, "rock")
		want, wanted := modelled(kept, keptLines)
		for range 2 {
			answers, after := run(town, all...)
			if !slices.Equal(answers, want) || !same(after, wanted) {
				t.Errorf("Run(%v, %q) = %q, %v", kept, keptLines, answers, after)
			}
			// One list after the other: none shares memory with another one.
			spoil(after.Shaft.Feet, -9)
			spoil(after.Buckets.Houses, -8)
			if !slices.Equal(after.Buckets.Wells, wanted.Buckets.Wells) || slices.Contains(after.Shaft.Feet, -8) {
				t.Errorf("Run(%v, %q): the results share memory", kept, keptLines)
			}
			spoil(after.Buckets.Wells, -7)
			spoil(after.Shaft.Rocks, rock(-9, -9, -9, -9))
			spoil(after.Buckets.Ways, ways(-9, -9)[0])
			spoil(after.Year.Days, day(-9, -9, -9))
			spoil(answers, "none")
		}
		behind := last(s.Rocks) == rock(7, 7, 7, 7) && last(s.Feet) == 77 && last(b.Houses) == 78 && last(b.Wells) == 79 && last(b.Ways) == ways(8, 8)[0] && last(y.Days) == day(1, 2, 3) && last(all) == "rock"
		if !same(town, kept) || !slices.Equal(all, keptLines) || !behind {
			t.Errorf("%v, %q have become %v, %q", kept, keptLines, town, all)
		}
	})
	// Lists of the town that share memory with each other are two lists then.
	shared := list(1, 0)
	_, after := run(api.MasterTown{Shaft: api.Shaft{Rocks: make([]api.ShaftRock, 2), Feet: shared}, Buckets: api.BucketTown{Houses: shared, Wells: shared[:1]}}, "want 1 9", "has 0 8", "up")
	if !slices.Equal(shared, list(1, 0)) || !slices.Equal(after.Shaft.Feet, list(1)) || !slices.Equal(after.Buckets.Houses, list(1, 9)) || !slices.Equal(after.Buckets.Wells, list(8)) {
		t.Errorf("%v has become %v", shared, after)
	}
	spoil(after.Shaft.Feet, 5)
	spoil(after.Buckets.Wells, 6)
	if !slices.Equal(after.Buckets.Houses, list(1, 9)) || !slices.Equal(shared, list(1, 0)) {
		t.Errorf("the results share memory: %v, %v", after, shared)
	}
}

func TestNoState(t *testing.T) {
	all := lines("keep a cheap; begin; size a; keep b most; has 0 b; lacks; up; cheap; drop; size b; foot 1; level 1; begin")
	want, wanted := modelled(townM(), all)
	var group sync.WaitGroup
	for range 20 {
		group.Go(func() {
			for range 20 {
				if answers, after := run(townM(), all...); !slices.Equal(answers, want) || !same(after, wanted) {
					t.Errorf("Run(%q) = %q, %v", all, answers, after)
				}
			}
		})
	}
	group.Wait()
	// No letter is kept, and no try is open, from call to call.
	if answers, _ := run(townM(), "size a", "end", "drop", "size b"); strings.Join(answers, " ") != "unknown no no unknown" {
		t.Errorf("afterwards: %q", answers)
	}
}

// anyNumber returns a random number, often one that is not valid.
func anyNumber(r *rand.Rand) int {
	some := list(math.MinInt, math.MinInt+1, -2, -1, 4, 5, 9, 10, 12, 13, 20, 21, 60, 61, 99, 100, math.MaxInt-1, math.MaxInt)
	if r.Intn(3) > 0 {
		return r.Intn(4)
	}
	return some[r.Intn(len(some))]
}

// spoiled returns a town in which something is any number.
func spoiled(r *rand.Rand, t api.MasterTown) api.MasterTown {
	some := []*int{&t.Shaft.Deep, &t.Shaft.Haul, &t.Shaft.Rest, &t.Year.Size, &t.Year.Start}
	for n := range t.Shaft.Rocks {
		rock := &t.Shaft.Rocks[n]
		some = append(some, &rock.Hours, &rock.Pence, &rock.Stand, &rock.Seat)
	}
	for _, l := range [][]int{t.Shaft.Feet, t.Buckets.Houses, t.Buckets.Wells} {
		for n := range l {
			some = append(some, &l[n])
		}
	}
	for n := range t.Buckets.Ways {
		some = append(some, &t.Buckets.Ways[n].House, &t.Buckets.Ways[n].Well)
	}
	for n := range t.Year.Days {
		day := &t.Year.Days[n]
		some = append(some, &day.Rain.Low, &day.Rain.High, &day.Want)
	}
	*some[r.Intn(len(some))] = anyNumber(r)
	return t
}

// anyLine returns a line of pieces of lines, or of any bytes.
func anyLine(r *rand.Rand, _ int) string {
	change, try, number, other := words()
	pieces := []string{" ", " ", " ", "  ", "keep", "a", "b", "z", "0", "1", "-1", "-", "00", "7777777", "999999", "\n", "é", "\xff", someWord(r, change), someWord(r, try), someWord(r, number), someWord(r, other)}
	var text string
	for range r.Intn(8) {
		text += pieces[r.Intn(len(pieces))]
		if r.Intn(2) == 0 {
			text += " "
		}
	}
	switch r.Intn(20) {
	case 0:
		text += strings.Repeat(pieces[r.Intn(len(pieces))], 10000)
	case 1:
		text = string([]byte{byte(r.Intn(256)), byte(r.Intn(256)), byte(r.Intn(256))})
	case 2, 3, 4, 5:
		return someLine(r, 3)
	}
	return text
}

func TestP1Master(t *testing.T) {
	good, bad, many, unclear, clear := 0, 0, 0, 0, 0
	each(1, 5000, func(r *rand.Rand, town api.MasterTown) {
		if r.Intn(2) == 0 {
			town = spoiled(r, town)
		}
		all := some(r, 33, anyLine, 0)
		answers, after, e := master.Run(town, all)
		switch {
		case !isTown(town):
			bad++
			if master.Check(town) != api.ErrMaster || e != api.ErrMaster {
				t.Errorf("%v: Check = %d, Run: %d", town, master.Check(town), e)
			}
		case len(all) > 30:
			many++
			if e != api.ErrMany {
				t.Errorf("Run(%v) of %d lines: %d", town, len(all), e)
			}
		default:
			good++
			want, wanted := modelled(town, all)
			if e != api.OK || !slices.Equal(answers, want) || !same(after, wanted) {
				t.Errorf("Run(%v, %q) = %q, %v, %d, not %q, %v", town, all, answers, after, e, want, wanted)
			}
			for _, answer := range answers {
				if answer == "what" {
					unclear++
				} else {
					clear++
				}
			}
		}
		if e != api.OK && (len(answers) != 0 || !same(after, api.MasterTown{})) {
			t.Errorf("Run(%v, %q) = %q, %v, %d", town, all, answers, after, e)
		}
	})
	if good < 1000 || bad < 300 || many < 100 || unclear < 1000 || clear < 1000 {
		t.Errorf("not all was tried: %d, %d, %d, %d, %d", good, bad, many, unclear, clear)
	}
	// Numbers and lines of any length.
	for _, text := range []string{strings.Repeat("9", 100000), "foot " + strings.Repeat("0", 100000), strings.Repeat(" ", 100000), strings.Repeat("keep a ", 20000) + "most", "foot " + strings.Repeat("1", 100000), strings.Repeat("a", 100000)} {
		if answers, after := run(townM(), text); answers[0] != "what" || !same(after, townM()) {
			t.Errorf("%d bytes: %q", len(text), answers)
		}
	}
}
