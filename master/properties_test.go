package master_test

import (
	"math/rand"
	"slices"
	"strconv"
	"strings"
	"testing"

	"steening/api"
	"steening/master"
)

// isSame reports whether two lists of answers are the same, and so are two towns.
func isSame(answers, others []string, after, other api.MasterTown) bool {
	return slices.Equal(answers, others) && same(after, other)
}

func TestP12_3CutInTwo(t *testing.T) {
	cuts, changes, inTry := 0, 0, 0
	each(3, 3000, func(r *rand.Rand, town api.MasterTown) {
		// The letter under which a line keeps something is no argument of it.
		one := append(some(r, 12, someLine, 3), slices.Repeat([]string{"end"}, r.Intn(4))...)
		all := append(one, some(r, 30-len(one), someLine, 1)...)
		answers, after := run(town, all...)
		for cut, open := range depths(all, answers) {
			if open > 0 {
				inTry++
				continue
			}
			if slices.ContainsFunc(all[cut:], hasLetter) {
				continue
			}
			first, between := run(town, all[:cut]...)
			second, end := run(between, all[cut:]...)
			if !isSame(slices.Concat(first, second), answers, end, after) {
				t.Errorf("%v, %q: %q, %v, but %q, %v if it is cut before %d", town, all, answers, after, slices.Concat(first, second), end, cut)
			}
			cuts++
			if !same(between, town) && !same(between, after) {
				changes++
			}
		}
	})
	if cuts < 3000 || changes < 1000 || inTry < 3000 {
		t.Errorf("not all was tried: %d, %d, %d", cuts, changes, inTry)
	}
}

func TestP12_4Nothing(t *testing.T) {
	counts := map[string]int{}
	each(4, 1500, func(r *rand.Rand, town api.MasterTown) {
		all := some(r, 30, someLine, 3)
		answers, after := run(town, all...)
		if master.Check(after) != api.OK || !isTown(after) {
			t.Errorf("Run(%v, %q) returns the town %v", town, all, after)
		}
		var left, leftAnswers []string
		for n, text := range all {
			if !changesNothing(text, answers[n]) {
				left, leftAnswers = append(left, text), append(leftAnswers, answers[n])
				continue
			}
			if asks(strings.Split(text, " ")[0]) {
				counts["asked"]++
			} else {
				counts[answers[n]]++
			}
			// Each one of them by itself.
			others, end := run(town, slices.Delete(slices.Clone(all), n, n+1)...)
			if !isSame(others, slices.Delete(slices.Clone(answers), n, n+1), end, after) {
				t.Errorf("%v, %q: %q, %v, but %q, %v without line %d", town, all, answers, after, others, end, n)
			}
		}
		if others, end := run(town, left...); !isSame(others, leftAnswers, end, after) {
			t.Errorf("%v, %q: %q, %v, but %q, %v of %q", town, all, answers, after, others, end, left)
		}
	})
	for _, what := range []string{"asked", "no", "what", "unknown", "none", "wrong"} {
		if counts[what] < 100 {
			t.Errorf("not all was tried: %q %d", what, counts[what])
		}
	}
}

// isKeep reports whether a line begins like one that keeps something.
func isKeep(text string) bool {
	return strings.HasPrefix(text, "keep")
}

// leaveOut fails unless `begin` and a line that closes can be left out around
// lines that neither open nor close: these with them, or not.
func leaveOut(t *testing.T, seed int64, closes string, theseToo bool) {
	done, letters := 0, 0
	each(seed, 4000, func(r *rand.Rand, town api.MasterTown) {
		first, inner, last := some(r, 8, someLine, 3), some(r, 8, someInner, 3), some(r, 12, someLine, 3)
		all := slices.Concat(first, []string{"begin"}, inner, []string{closes}, last)
		answers, after := run(town, all...)
		from, to := len(first), len(first)+len(inner)+1
		left, want := slices.Concat(first, inner, last), slices.Concat(answers[:from], answers[from+1:to], answers[to+1:])
		if theseToo {
			left, want = slices.Concat(first, last), slices.Concat(answers[:from], answers[to+1:])
		}
		others, end := run(town, left...)
		if !isSame(others, want, end, after) || answers[from] != "ok" || answers[to] != "ok" {
			t.Errorf("%v, %q: %q, %v, but %q, %v of %q", town, all, answers, after, others, end, left)
		}
		if slices.Contains(answers[from+1:to], "ok") {
			done++
		}
		if slices.ContainsFunc(inner, isKeep) && slices.ContainsFunc(last, hasLetter) {
			letters++
		}
	})
	if done < 1000 || letters < 1000 {
		t.Errorf("not all was tried: %d, %d", done, letters)
	}
}

func TestP12_5Dropped(t *testing.T) {
	leaveOut(t, 5, "drop", true)
}

func TestP12_6Ended(t *testing.T) {
	leaveOut(t, 6, "end", false)
}

func TestP12_7Letters(t *testing.T) {
	told, changes, kept, below := 0, 0, 0, 0
	each(7, 4000, func(r *rand.Rand, town api.MasterTown) {
		all := some(r, 30, someLine, 5)
		answers, after := run(town, all...)
		m := &model{first: town}
		var others []string
		for n, text := range all {
			under, word, arguments := split(text)
			numbers, are := m.told(arguments)
			other := text
			if word != "" && are && hasLetter(text) {
				other = strings.Join(append([]string{word}, numbers...), " ")
				if under != "" {
					other = "keep " + under + " " + other
					kept++
				} else if answers[n] == "ok" {
					changes++
				}
				if strings.Contains(other, "-") {
					below++
				}
				told++
			}
			m.line(text)
			others = append(others, other)
		}
		if same, end := run(town, others...); !isSame(same, answers, end, after) {
			t.Errorf("%v, %q: %q, %v, but %q, %v of %q", town, all, answers, after, same, end, others)
		}
	})
	if told < 1000 || changes < 500 || kept < 300 || below < 50 {
		t.Errorf("not all was tried: %d, %d, %d, %d", told, changes, kept, below)
	}
}

func TestP12_8Asked(t *testing.T) {
	counts := map[string]int{}
	each(8, 1500, func(r *rand.Rand, town api.MasterTown) {
		first := some(r, 20, someLine, 2)
		_, now := run(town, first...)
		_, _, number, other := words()
		for _, known := range []map[string]int{number, other} {
			for word, many := range known {
				text, numbers := word, []int(nil)
				if many == 1 {
					numbers = list(someNumber(r, mosts(word)[0]))
					text += " " + strconv.Itoa(numbers[0])
				}
				want := asked(now, word, numbers)
				answers, after := run(town, append(first, text, "keep q "+text, text)...)
				if answers = answers[len(first):]; !slices.Equal(answers, slices.Repeat([]string{want}, 3)) || !same(after, now) {
					t.Errorf("%v, %q: %s is %q, not %q, and the town %v", town, first, text, answers, want, after)
				}
				if want != "none" && want != "wrong" {
					counts[word]++
				}
			}
		}
	})
	_, _, number, other := words()
	for _, known := range []map[string]int{number, other} {
		for word := range known {
			if counts[word] < 200 {
				t.Errorf("not all was tried: %s %d", word, counts[word])
			}
		}
	}
}

// partOf returns the part of the town that a line changes.
func partOf(text string) string {
	switch strings.Split(text, " ")[0] {
	case "rock", "foot", "up":
		return "shaft"
	case "day", "size":
		return "year"
	}
	return "buckets"
}

func TestP12_9BesideEachOther(t *testing.T) {
	counts := map[string]int{}
	each(9, 5000, func(r *rand.Rand, town api.MasterTown) {
		first, last := some(r, 10, someLine, 3), some(r, 10, someLine, 3)
		one, other := someChange(r, 2), someChange(r, 2)
		if partOf(one) == partOf(other) {
			return
		}
		answers, after := run(town, slices.Concat(first, []string{one, other}, last)...)
		others, end := run(town, slices.Concat(first, []string{other, one}, last)...)
		n := len(first)
		counts[answers[n]+", "+answers[n+1]]++
		others[n], others[n+1] = others[n+1], others[n]
		if !isSame(answers, others, after, end) {
			t.Errorf("%v: %q, %v of %q, %q behind %q, but %q, %v in the other order", town, answers, after, one, other, first, others, end)
		}
	})
	for _, what := range []string{"ok, ok", "ok, no", "no, ok", "no, no"} {
		if counts[what] < 100 {
			t.Errorf("not all was tried: %s %d", what, counts[what])
		}
	}
}

func TestP12_10DownAndUp(t *testing.T) {
	down, not, empty := 0, 0, 0
	each(10, 3000, func(r *rand.Rand, town api.MasterTown) {
		first := some(r, 10, someLine, 2)
		_, now := run(town, first...)
		answers, after := run(town, append(first, clearLine(r, "foot", 0), "up")...)
		switch answers = answers[len(first):]; answers[0] {
		case "ok":
			down++
			if answers[1] != "ok" || !sameShaft(after.Shaft, now.Shaft) || !same(after, now) {
				t.Errorf("%v, %q: %v has become %v, %q", town, first, now, after, answers)
			}
		case "no":
			not++
		}
		feet := len(now.Shaft.Feet)
		answers, after = run(town, append(first, slices.Repeat([]string{"up"}, feet+1)...)...)
		want := append(slices.Repeat([]string{"ok"}, feet), "no")
		without := with(now, func(t *api.MasterTown) { t.Shaft.Feet = nil })
		if !slices.Equal(answers[len(first):], want) || !same(after, without) {
			t.Errorf("%v, %q: %d feet, but %q, %v", town, first, feet, answers, after)
		}
		if feet == 0 {
			empty++
		}
	})
	if down < 500 || not < 200 || empty < 200 {
		t.Errorf("not all was tried: %d, %d, %d", down, not, empty)
	}
}

func TestP12_11Ways(t *testing.T) {
	moved, between := 0, 0
	each(11, 3000, func(r *rand.Rand, town api.MasterTown) {
		old := len(town.Buckets.Ways)
		town.Buckets.Ways = slices.DeleteFunc(town.Buckets.Ways, func(api.BucketWay) bool { return r.Intn(2) == 0 })
		var all []string
		for house := range town.Buckets.Houses {
			for well := range town.Buckets.Wells {
				w := api.BucketWay{House: house, Well: well}
				if r.Intn(3) == 0 && !slices.Contains(town.Buckets.Ways, w) && len(town.Buckets.Ways)+len(all) < 12 {
					all = append(all, "way "+strconv.Itoa(house)+" "+strconv.Itoa(well))
				}
			}
		}
		one := slices.Clone(all)
		answers, after := run(town, one...)
		r.Shuffle(len(all), func(a, b int) { all[a], all[b] = all[b], all[a] })
		others, end := run(town, all...)
		if !isSame(answers, others, after, end) || slices.ContainsFunc(answers, func(a string) bool { return a != "ok" }) || !isTown(end) {
			t.Errorf("%v: %q, %v of %q, but %q, %v of %q", town, answers, after, one, others, end, all)
		}
		if !slices.Equal(one, all) {
			moved++
		}
		if len(all) > 0 && len(town.Buckets.Ways) > 0 && old > 0 {
			between++
		}
	})
	if moved < 1000 || between < 500 {
		t.Errorf("not all was tried: %d, %d", moved, between)
	}
}

// writtenDown returns the lines that write down all of a town but the numbers of
// the shaft and the cistern.
func writtenDown(t api.MasterTown) []string {
	var all []string
	add := func(word string, numbers ...int) {
		for _, n := range numbers {
			word += " " + strconv.Itoa(n)
		}
		all = append(all, word)
	}
	for _, d := range t.Year.Days {
		add("day", d.Rain.Low, d.Rain.High, d.Want)
	}
	for _, n := range t.Buckets.Houses {
		add("house", n)
	}
	for _, n := range t.Buckets.Wells {
		add("well", n)
	}
	for _, w := range t.Buckets.Ways {
		add("way", w.House, w.Well)
	}
	for _, k := range t.Shaft.Rocks {
		add("rock", k.Hours, k.Pence, k.Stand, k.Seat)
	}
	for _, n := range t.Shaft.Feet {
		add("foot", n)
	}
	return all
}

func TestTownWrittenDown(t *testing.T) {
	each(16, 1000, func(r *rand.Rand, town api.MasterTown) {
		now := api.MasterTown{
			Shaft: api.Shaft{Deep: town.Shaft.Deep, Haul: town.Shaft.Haul, Rest: town.Shaft.Rest},
			Year:  api.CisternYear{Size: town.Year.Size, Start: town.Year.Start},
		}
		var answers []string
		for part := range slices.Chunk(writtenDown(town), 1+r.Intn(30)) {
			answers, now = run(now, part...)
			if slices.ContainsFunc(answers, func(a string) bool { return a != "ok" }) {
				t.Errorf("%v: %q is answered %q", town, part, answers)
			}
		}
		if !same(now, town) {
			t.Errorf("%v was written down as %v", town, now)
		}
	})
}

func TestSizesTried(t *testing.T) {
	lasting := 0
	each(17, 300, func(_ *rand.Rand, town api.MasterTown) {
		y := town.Year
		least := asked(town, "least", nil)
		for size := y.Start; size <= api.MaxCistern+1; size++ {
			answers, after := run(town, "begin", "size "+strconv.Itoa(size), "empty", "drop", "least")
			if (answers[1] == "ok") != (size <= api.MaxCistern) || answers[4] != least || !same(after, town) {
				t.Errorf("%v: %d: %q, %v", town, size, answers, after)
			}
			n, err := strconv.Atoi(least)
			if answers[1] == "ok" && (answers[2] == "none") != (err == nil && n <= size) {
				t.Errorf("%v: %d: %q, but least is %s", town, size, answers, least)
			}
			if answers[2] == "none" {
				lasting++
			}
		}
	})
	if lasting < 500 {
		t.Errorf("only %d sizes with which it lasts were tried", lasting)
	}
}
