package quarrels_test

import (
	"math/rand"
	"slices"
	"testing"

	"steening/api"
	"steening/quarrels"
)

func TestP5_13EachWorld(t *testing.T) {
	eachTown(13, 600, api.MaxQuarrelFacts, func(r *rand.Rand, town api.QuarrelTown) {
		left, draws := leftOf(town), someDraws(r, town, api.MaxQuarrelMany)
		for n, w := range town.Worlds {
			_, e := quarrels.Out(town, n)
			isLeft := slices.Contains(left, n)
			if isLeft != (e == api.ErrNone) {
				t.Errorf("%v: Left = %v, Out of %d says %d", town, left, n, e)
			}
			if !isLeft {
				continue
			}
			for _, test := range allTests(town) {
				fall, s := shownIn(w, test), betweenOf(town, test.From, test.To)
				if fall < s.Low || fall > s.High {
					t.Errorf("%v: in the world %d %v shows %d, Between = %v", town, n, test, fall, s)
				}
				for law := range 1 + api.MaxQuarrelFall {
					harms := harmsIn(town, test.From, test.To, law)
					if harms == api.Surely && fall <= law || harms == api.Never && fall > law {
						t.Errorf("%v: in the world %d %v shows %d, Harms = %d", town, n, test, fall, harms)
					}
				}
			}
			for well := range town.Wells {
				sum, s := 0, totalOf(town, draws, well)
				for _, feet := range loweredIn(w, draws, well) {
					sum += feet
				}
				if sum < s.Low || sum > s.High {
					t.Errorf("%v: in the world %d %v lower %d by %d, Total = %v", town, n, draws, well, sum, s)
				}
			}
		}
	})
}

// checkKnown checks that one town, with one fact more, says no less of each fall
// than another one does, and returns how often it says more.
func checkKnown(t *testing.T, town, more api.QuarrelTown) (narrower, known int) {
	for _, test := range allTests(town) {
		before, after := betweenOf(town, test.From, test.To), betweenOf(more, test.From, test.To)
		if after.Low < before.Low || after.High > before.High {
			t.Errorf("%v: Between of %v = %v, and %v with %v", town, test, before, after, more.Facts)
		}
		if after != before {
			narrower++
		}
		for law := range 1 + api.MaxQuarrelFall {
			was, is := harmsIn(town, test.From, test.To, law), harmsIn(more, test.From, test.To, law)
			if was != api.Perhaps && is != was {
				t.Errorf("%v: Harms of %v, %d = %d, and %d with %v", town, test, law, was, is, more.Facts)
			}
			if was != is {
				known++
			}
		}
	}
	return narrower, known
}

func TestP5_14OneFactMore(t *testing.T) {
	narrower, known, less := 0, 0, 0
	eachTown(14, 3000, api.MaxQuarrelFacts-1, func(r *rand.Rand, town api.QuarrelTown) {
		if town.Wells == 0 {
			return
		}
		more := with(town, someFact(r, town))
		before, after := leftOf(town), leftOf(more)
		if slices.ContainsFunc(after, func(n int) bool { return !slices.Contains(before, n) }) {
			t.Errorf("%v: Left = %v, and %v with %v", town, before, after, more.Facts)
		}
		if len(after) == 0 {
			return
		}
		n, k := checkKnown(t, town, more)
		narrower, known = narrower+n, known+k
		if depthOf(more) > depthOf(town) || len(fewestOf(more)) > len(fewestOf(town)) {
			t.Errorf("%v: Depth = %d, Fewest = %v; %d and %v with %v", town, depthOf(town), fewestOf(town), depthOf(more), fewestOf(more), more.Facts)
		}
		if depthOf(more) < depthOf(town) {
			less++
		}
	})
	if narrower < 100 || known < 100 || less < 100 {
		t.Errorf("not all was tried: %d, %d, %d", narrower, known, less)
	}
}

// tellAll reports whether some tests tell each two of some worlds apart that are
// not alike.
func tellAll(all []api.QuarrelWorld, some []api.QuarrelTest) bool {
	parts := [][]api.QuarrelWorld{all}
	for _, test := range some {
		var smaller [][]api.QuarrelWorld
		for _, part := range parts {
			smaller = append(smaller, groups(part, test)...)
		}
		parts = smaller
	}
	return !slices.ContainsFunc(parts, func(part []api.QuarrelWorld) bool {
		return slices.ContainsFunc(part, func(w api.QuarrelWorld) bool { return !areAlike(w, part[0]) })
	})
}

// lists returns all lists of so many tests, each of them once, in order.
func lists(some []api.QuarrelTest, many int) [][]api.QuarrelTest {
	if many == 0 {
		return [][]api.QuarrelTest{nil}
	}
	var all [][]api.QuarrelTest
	for n, test := range some {
		for _, rest := range lists(some[n+1:], many-1) {
			all = append(all, append([]api.QuarrelTest{test}, rest...))
		}
	}
	return all
}

func TestP5_15TheFewestTests(t *testing.T) {
	several := 0
	eachLeft(15, 1000, 2, func(_ *rand.Rand, town api.QuarrelTown, left []api.QuarrelWorld) {
		list := fewestOf(town)
		if !tellAll(left, list) {
			t.Errorf("Fewest(%v) = %v: they do not tell all apart", town, list)
		}
		for n := range list {
			if tellAll(left, slices.Delete(slices.Clone(list), n, n+1)) {
				t.Errorf("Fewest(%v) = %v: that of the place %d is idle", town, list, n)
			}
		}
		if len(list) > 1 {
			several++
			fewer := lists(allTests(town), len(list)-1)
			if slices.ContainsFunc(fewer, func(some []api.QuarrelTest) bool { return tellAll(left, some) }) {
				t.Errorf("Fewest(%v) = %v: fewer are enough", town, list)
			}
		}
	})
	if several < 100 {
		t.Errorf("only %d lists of several tests were tried", several)
	}
}

func TestP5_16StepByStep(t *testing.T) {
	counts := make(map[int]int)
	eachLeft(16, 1500, api.MaxQuarrelFacts-1, func(_ *rand.Rand, town api.QuarrelTown, left []api.QuarrelWorld) {
		depth := depthOf(town)
		if depth > len(fewestOf(town)) || depth >= len(left) {
			t.Errorf("%v: Depth = %d, Fewest = %v, left are %d", town, depth, fewestOf(town), len(left))
		}
		next, e := quarrels.Next(town)
		if (e == api.ErrNone) != (depth == 0) {
			t.Errorf("%v: Depth = %d, Next = %v, %d", town, depth, next, e)
		}
		if depth == 0 {
			return
		}
		for _, w := range left {
			counts[depth]++
			if after, e := quarrels.Depth(with(town, asFact(next, shownIn(w, next)))); after >= depth || e != api.OK {
				t.Errorf("%v: Depth = %d, and %d, %d behind %v, which shows %d", town, depth, after, e, next, shownIn(w, next))
			}
		}
	})
	if counts[1] < 100 || counts[2] < 100 || counts[3] < 20 {
		t.Errorf("not all was tried: %v", counts)
	}
}

func TestP5_17Alike(t *testing.T) {
	eachTown(17, 1000, 3, func(r *rand.Rand, town api.QuarrelTown) {
		if len(town.Worlds) == 0 || len(town.Worlds) == api.MaxQuarrelWorlds {
			return
		}
		more := clone(town)
		more.Worlds = slices.Insert(more.Worlds, r.Intn(len(town.Worlds)+1), clone(town).Worlds[r.Intn(len(town.Worlds))])
		checkSame(t, r, town, more)
	})
}

// checkSame checks that Fewest, Decide, Depth and Next of two towns are the same.
func checkSame(t *testing.T, r *rand.Rand, a, b api.QuarrelTown) {
	list, e1 := quarrels.Fewest(a)
	other, f1 := quarrels.Fewest(b)
	depth, e2 := quarrels.Depth(a)
	deep, f2 := quarrels.Depth(b)
	next, e3 := quarrels.Next(a)
	test, f3 := quarrels.Next(b)
	if !slices.Equal(list, other) || depth != deep || next != test || e1 != f1 || e2 != f2 || e3 != f3 {
		t.Errorf("%v, %v: Fewest = %v, %v; Depth = %d, %d; Next = %v, %v", a, b, list, other, depth, deep, next, test)
	}
	for _, test := range allTests(a) {
		law := r.Intn(4)
		list, e := quarrels.Decide(a, test.From, test.To, law)
		other, f := quarrels.Decide(b, test.From, test.To, law)
		if !slices.Equal(list, other) || e != f {
			t.Errorf("%v, %v: Decide of %v, %d = %v, %d; %v, %d", a, b, test, law, list, e, other, f)
		}
	}
}

func TestP5_18Together(t *testing.T) {
	narrower := 0
	eachLeft(18, 1000, 3, func(r *rand.Rand, town api.QuarrelTown, _ []api.QuarrelWorld) {
		one, other := someDraws(r, town, 4), someDraws(r, town, 5)
		both, none := slices.Clone(one), make([]int, town.Wells)
		for well, many := range other {
			both[well] += many
		}
		for well := range town.Wells {
			a, b, s := totalOf(town, one, well), totalOf(town, other, well), totalOf(town, both, well)
			if s.Low < a.Low+b.Low || s.High > a.High+b.High {
				t.Errorf("%v: Total of %v = %v, of %v = %v, of both = %v", town, one, a, other, b, s)
			}
			if s.Low > a.Low+b.Low {
				narrower++
			}
			if s, e := quarrels.Total(town, none, well); s != (api.Span{}) || e != api.OK {
				t.Errorf("%v: Total with no draws = %v, %d", town, s, e)
			}
		}
	})
	if narrower < 50 {
		t.Errorf("only %d Totals of both were narrower", narrower)
	}
}

func TestP5_19AnyOrder(t *testing.T) {
	eachTown(19, 1000, api.MaxQuarrelFacts, func(r *rand.Rand, town api.QuarrelTown) {
		worlds, facts := r.Perm(len(town.Worlds)), r.Perm(len(town.Facts))
		other := clone(town)
		for n, name := range worlds {
			other.Worlds[name] = town.Worlds[n]
		}
		for n, name := range facts {
			other.Facts[name] = town.Facts[n]
		}
		if left := renamed(leftOf(town), worlds); !slices.Equal(left, leftOf(other)) {
			t.Errorf("%v, %v: Left = %v, %v", town, other, left, leftOf(other))
		}
		for n, name := range worlds {
			out, e := quarrels.Out(town, n)
			its, f := quarrels.Out(other, name)
			if !slices.Equal(renamed(out, facts), its) || e != f {
				t.Errorf("%v, %v: Out of %d = %v, %d; %v, %d", town, other, n, out, e, its, f)
			}
		}
		checkSame(t, r, town, other)
		draws := someDraws(r, town, api.MaxQuarrelMany)
		for _, test := range allTests(town) {
			from, to := test.From, test.To
			most, e := quarrels.Split(town, test)
			its, f := quarrels.Split(other, test)
			well, g := quarrels.Blame(town, draws, to)
			one, h := quarrels.Blame(other, draws, to)
			if most != its || e != f || well != one || g != h || betweenOf(town, from, to) != betweenOf(other, from, to) ||
				harmsIn(town, from, to, 1) != harmsIn(other, from, to, 1) || totalOf(town, draws, to) != totalOf(other, draws, to) {
				t.Errorf("%v and %v are not the same", town, other)
			}
		}
	})
}

// renamed returns, ascending, the new names of some numbers.
func renamed(list, names []int) []int {
	var all []int
	for _, n := range list {
		all = append(all, names[n])
	}
	slices.Sort(all)
	return all
}

func TestP5_20WhoDecides(t *testing.T) {
	decided := 0
	eachLeft(20, 1500, 1, func(r *rand.Rand, town api.QuarrelTown, left []api.QuarrelWorld) {
		for _, test := range allTests(town) {
			law := r.Intn(4)
			list, e := quarrels.Decide(town, test.From, test.To, law)
			harms := harmsIn(town, test.From, test.To, law)
			if (e == api.OK && len(list) == 0) != (harms != api.Perhaps) {
				t.Errorf("%v: Decide of %v, %d = %v, %d; Harms = %d", town, test, law, list, e, harms)
			}
			if e != api.OK {
				continue
			}
			if slices.Contains(list, test) {
				t.Errorf("%v: Decide of %v, %d = %v", town, test, law, list)
			}
			// What is shown in no world that is left leaves none.
			for _, w := range left {
				more := town
				for _, each := range list {
					more = with(more, asFact(each, shownIn(w, each)))
				}
				if harms, e := quarrels.Harms(more, test.From, test.To, law); harms == api.Perhaps || e != api.OK {
					t.Errorf("%v: Decide of %v, %d = %v; Harms = %d, %d with %v", town, test, law, list, harms, e, more.Facts)
				}
				if len(list) > 0 {
					decided++
				}
			}
		}
	})
	if decided < 500 {
		t.Errorf("only %d worlds were decided", decided)
	}
}
