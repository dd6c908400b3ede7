package tests

import (
	"fmt"
	"math"
	"slices"
	"testing"

	"loop.example/g00307/impl"
)

// The constants have no kind of their own, so that they go with any number.
const (
	_ float64 = impl.RoStable
	_ float64 = impl.RoReady
	_ float64 = impl.RoMoved
)

// noPhases are wrong on either side, the nearest and the farthest.
var noPhases = []int64{math.MinInt64, math.MinInt64 + 1, -3, -2, -1, 0, 4, 5, 1<<32 + 1, 1<<32 + 3, math.MaxInt64 - 1, math.MaxInt64}

func rollOf(phase, main, old, fresh, at int64) impl.Roll {
	return impl.Roll{Phase: phase, Main: main, Old: old, New: fresh, At: at}
}

func secretByWords(secret int64) bool { return secret >= 1 && secret <= 2548 }

func rollByWords(r impl.Roll) bool {
	right := secretByWords(r.Main) && secretByWords(r.Old) && timeByWords(r.At)
	return right && (r.Phase == 1 && r.New == 0 || (r.Phase == 2 || r.Phase == 3) && secretByWords(r.New))
}

// stepByWords writes into the Roll it was given what the chapter says is another, where the program makes a new one.
func stepByWords(r impl.Roll, now, fresh int64) (impl.Roll, bool) {
	if !rollByWords(r) {
		return impl.Roll{}, false
	}
	early := !timeByWords(now) || now-r.At < 100
	if early || r.Phase == 1 && (!secretByWords(fresh) || fresh == r.Old || fresh == r.Main) {
		return r, false
	}
	if r.Phase == 1 {
		r.New = fresh
	}
	if r.Phase == 3 {
		r.Old, r.New = r.New, 0
	}
	r.Phase, r.At = r.Phase%3+1, now
	return r, true
}

func servedByWords(round signRound, r impl.Roll) []impl.Point {
	switch {
	case !rollByWords(r):
		return nil
	case r.New > 0:
		return round.keys(r.Main, r.Old, r.New)
	}
	return round.keys(r.Main, r.Old)
}

func signingByWords(r impl.Roll) int64 {
	switch {
	case !rollByWords(r):
		return 0
	case r.Phase == 3:
		return r.New
	}
	return r.Old
}

// eachRoll goes through every Roll that can be put together from these.
func eachRoll(phases, secrets, news, times []int64, ask func(impl.Roll)) {
	for _, phase := range phases {
		for _, main := range secrets {
			for _, old := range secrets {
				for _, fresh := range news {
					for _, at := range times {
						ask(rollOf(phase, main, old, fresh, at))
					}
				}
			}
		}
	}
}

// rightRolls are of each phase, at both ends of each place, with one secret twice or thrice among them.
func rightRolls() []impl.Roll {
	list := []impl.Roll{}
	eachRoll([]int64{1, 2, 3}, []int64{1, 7, 2548}, []int64{0, 1, 7, 9, 2548}, []int64{0, 1, 500, 999899, 999900, 999901, 999999, 1000000}, func(r impl.Roll) {
		if rollByWords(r) {
			list = append(list, r)
		}
	})
	return list
}

// noRolls are wrong in one place, or in more.
func noRolls() []impl.Roll {
	list := []impl.Roll{{}}
	add := func(phase, main, old, fresh, at int64) { list = append(list, rollOf(phase, main, old, fresh, at)) }
	for _, phase := range noPhases {
		for _, fresh := range []int64{0, 9} {
			add(phase, 7, 8, fresh, 0)
			add(phase, 7, 8, fresh, 1000000)
		}
	}
	for _, fresh := range append([]int64{1, 7, 8, 9, 2548}, noSecrets...) {
		if fresh != 0 {
			add(1, 7, 8, fresh, 5)
		}
	}
	for _, wrong := range noSecrets {
		add(2, 7, 8, wrong, 5)
		add(3, 7, 8, wrong, 5)
		for phase, fresh := range map[int64]int64{1: 0, 2: 9, 3: 9} {
			add(phase, wrong, 8, fresh, 5)
			add(phase, 7, wrong, fresh, 5)
			add(phase, wrong, wrong, wrong, wrong)
		}
	}
	for _, at := range noTimes {
		add(1, 7, 8, 0, at)
		add(2, 7, 8, 9, at)
		add(3, 7, 8, 9, at)
	}
	for _, far := range []int64{math.MinInt64, math.MaxInt64} {
		add(far, far, far, far, far)
	}
	return list
}

// someNows are at, just below and just above the time of a Step, and at all ends.
func someNows(r impl.Roll) []int64 {
	return slices.Concat([]int64{r.At - 100, r.At - 1, r.At, r.At + 1, r.At + 98, r.At + 99, r.At + 100, r.At + 101, r.At + 200}, edgeTimes, noTimes)
}

// someFresh are secrets and none, with those that the Roll has already.
func someFresh(r impl.Roll) []int64 {
	return slices.Concat([]int64{r.Main, r.Old, r.New, 1, 2, 7, 8, 9, 2547, 2548}, noSecrets)
}

// askRoll asks all but Step against what is worked out another way.
func askRoll(t *testing.T, round signRound, r impl.Roll) {
	t.Helper()
	right := rollByWords(r)
	if got := impl.RollOk(r); got != right {
		t.Fatalf("RollOk(%v) is %v", r, got)
	}
	if got, want := impl.Served(r), servedByWords(round, r); !slices.Equal(got, want) {
		t.Fatalf("Served(%v) = %v, not %v", r, got, want)
	}
	got := impl.Signing(r)
	if got != signingByWords(r) {
		t.Fatalf("Signing(%v) = %d", r, got)
	}
	if right && !slices.Contains(impl.Served(r), round.timesBase(got)) {
		t.Fatalf("%v does not serve what signs", r)
	}
}

func askStep(t *testing.T, r impl.Roll, now, fresh int64) bool {
	t.Helper()
	want, wantOk := stepByWords(r, now, fresh)
	got, ok := impl.Step(r, now, fresh)
	if got != want || ok != wantOk {
		t.Fatalf("Step(%v, %d, %d) = %v, %v, not %v, %v", r, now, fresh, got, ok, want, wantOk)
	}
	if ok && !impl.RollOk(got) {
		t.Fatalf("Step(%v, %d, %d) = %v is not RollOk", r, now, fresh, got)
	}
	return ok
}

// mustRoll is NewRoll where both are secrets and now is a time.
func mustRoll(t *testing.T, main, old, now int64) impl.Roll {
	t.Helper()
	r, ok := impl.NewRoll(main, old, now)
	if !ok || !impl.RollOk(r) {
		t.Fatalf("NewRoll(%d, %d, %d) = %v, %v", main, old, now, r, ok)
	}
	return r
}

func mustStep(t *testing.T, r impl.Roll, now, fresh int64) impl.Roll {
	t.Helper()
	next, ok := impl.Step(r, now, fresh)
	if !ok || !impl.RollOk(next) {
		t.Fatalf("Step(%v, %d, %d) = %v, %v", r, now, fresh, next, ok)
	}
	return next
}

func TestRollKnown(t *testing.T) {
	if impl.RoStable != 1 || impl.RoReady != 2 || impl.RoMoved != 3 || impl.MaxTtl != 100 {
		t.Fatal("constants")
	}
	five, nine := impl.Point{X: 7405, Y: 8341}, impl.Point{X: 7431, Y: 9797}
	r := mustRoll(t, 1, 5, 40)
	ask := func(want impl.Roll, signing int64, served ...impl.Point) {
		t.Helper()
		if r != want || impl.Signing(r) != signing || !slices.Equal(impl.Served(r), served) {
			t.Errorf("%v, signed by %d, serves %v", r, impl.Signing(r), impl.Served(r))
		}
	}
	ask(rollOf(1, 1, 5, 0, 40), 5, impl.Base(), five)
	r = mustStep(t, r, 140, 9)
	ask(rollOf(2, 1, 5, 9, 140), 5, impl.Base(), five, nine)
	r = mustStep(t, r, 250, 0)
	ask(rollOf(3, 1, 5, 9, 250), 9, impl.Base(), five, nine)
	r = mustStep(t, r, 350, 0)
	ask(rollOf(1, 1, 9, 0, 350), 9, impl.Base(), nine)
}

func TestNewRoll(t *testing.T) {
	round := newSignRound(t)
	for _, main := range edgeSecrets {
		for _, old := range edgeSecrets {
			for _, now := range edgeTimes {
				r := mustRoll(t, main, old, now)
				if r != rollOf(1, main, old, 0, now) {
					t.Fatalf("NewRoll(%d, %d, %d) = %v", main, old, now, r)
				}
				askRoll(t, round, r)
			}
		}
	}
}

func TestNewRollWrong(t *testing.T) {
	ask := func(main, old, now int64) {
		t.Helper()
		if r, ok := impl.NewRoll(main, old, now); ok || r != (impl.Roll{}) {
			t.Errorf("NewRoll(%d, %d, %d) = %v, %v", main, old, now, r, ok)
		}
	}
	for _, wrong := range noSecrets {
		for _, right := range edgeSecrets {
			for _, now := range slices.Concat(edgeTimes, noTimes) {
				ask(wrong, right, now)
				ask(right, wrong, now)
				ask(wrong, wrong, now)
			}
		}
	}
	for _, now := range noTimes {
		for _, main := range edgeSecrets {
			for _, old := range edgeSecrets {
				ask(main, old, now)
			}
		}
	}
}

// Every secret can be each of the three.
func TestRollOfEachSecret(t *testing.T) {
	t.Parallel()
	round := newSignRound(t)
	for secret := int64(-1); secret <= 2550; secret++ {
		for _, r := range []impl.Roll{rollOf(1, secret, 8, 0, 0), rollOf(1, 7, secret, 0, 0), rollOf(2, 7, 8, secret, 0), rollOf(3, 7, 8, secret, 0)} {
			askRoll(t, round, r)
			askStep(t, r, 100, 9)
		}
		if secret != 7 && secret != 8 {
			if ok := askStep(t, rollOf(1, 7, 8, 0, 0), 100, secret); ok != (secret >= 1 && secret <= 2548) {
				t.Fatalf("Step with fresh %d is %v", secret, ok)
			}
		}
	}
}

func TestRollsRight(t *testing.T) {
	t.Parallel()
	round, count := newSignRound(t), map[bool]int{}
	for _, r := range rightRolls() {
		askRoll(t, round, r)
		if !impl.RollOk(r) {
			t.Fatalf("%v is not RollOk", r)
		}
		for _, now := range someNows(r) {
			for _, fresh := range someFresh(r) {
				count[askStep(t, r, now, fresh)]++
			}
		}
	}
	if count[true] < 1000 || count[false] < 1000 {
		t.Error(count)
	}
}

func TestRollsWrong(t *testing.T) {
	round := newSignRound(t)
	for _, r := range noRolls() {
		askRoll(t, round, r)
		if impl.RollOk(r) || len(impl.Served(r)) != 0 || impl.Signing(r) != 0 {
			t.Errorf("%v: %v, Served %v, Signing %d", r, impl.RollOk(r), impl.Served(r), impl.Signing(r))
		}
		for _, now := range someNows(r) {
			for _, fresh := range someFresh(r) {
				if got, ok := impl.Step(r, now, fresh); ok || got != (impl.Roll{}) {
					t.Fatalf("Step(%v, %d, %d) = %v, %v", r, now, fresh, got, ok)
				}
			}
		}
	}
}

// Right and wrong of each place, in every combination.
func TestRollAsTheChapterSays(t *testing.T) {
	t.Parallel()
	round, count := newSignRound(t), map[bool]int{}
	secrets := []int64{math.MinInt64, -1, 0, 1, 8, 2548, 2549, math.MaxInt64}
	phases := []int64{math.MinInt64, -1, 0, 1, 2, 3, 4, math.MaxInt64}
	eachRoll(phases, secrets, secrets, []int64{math.MinInt64, -1, 0, 999900, 1000000, 1000001, math.MaxInt64}, func(r impl.Roll) {
		askRoll(t, round, r)
		for _, now := range []int64{math.MinInt64, 100, 1000000, math.MaxInt64} {
			askStep(t, r, now, 8)
			askStep(t, r, now, 9)
		}
		count[rollByWords(r)]++
	})
	if count[true] < 100 || count[false] < 100 {
		t.Error(count)
	}
}

// A Roll goes around, each Step at its first time or later, with what it has to keep.
func TestRollGoesAround(t *testing.T) {
	round := newSignRound(t)
	for _, late := range []int64{0, 1, 37, 100, 5000} {
		r := mustRoll(t, 7, 8, late)
		for n := range int64(30) {
			fresh, now := 9+n, r.At+100+late
			was := r
			r = mustStep(t, was, now, fresh)
			if r != rollOf(2, 7, was.Old, fresh, now) {
				t.Fatalf("behind %v: %v", was, r)
			}
			askRoll(t, round, r)
			now += 100 + late
			r = mustStep(t, r, now, -n)
			if r != rollOf(3, 7, was.Old, fresh, now) {
				t.Fatalf("behind %v, at %d: %v", was, now, r)
			}
			askRoll(t, round, r)
			now += 100 + late
			r = mustStep(t, r, now, n)
			if r != rollOf(1, 7, fresh, 0, now) {
				t.Fatalf("behind %v, at %d: %v", was, now, r)
			}
			askRoll(t, round, r)
		}
	}
}

// No Step before its time, and each from it on, in every phase.
func TestStepInTime(t *testing.T) {
	for _, r := range []impl.Roll{rollOf(1, 7, 8, 0, 0), rollOf(2, 7, 8, 9, 0), rollOf(3, 7, 8, 9, 0)} {
		for _, r.At = range []int64{0, 1, 99, 100, 101, 12345, 999800, 999899, 999900, 999901, 999999, 1000000} {
			for now := r.At - 350; now <= r.At+350; now++ {
				want := now >= r.At+100 && now <= 1000000
				got, ok := impl.Step(r, now, 10)
				if ok != want || ok && (got.At != now || got.Phase == r.Phase) || !ok && got != r {
					t.Fatalf("Step(%v, %d, 10) = %v, %v", r, now, got, ok)
				}
			}
			for _, now := range noTimes {
				if got, ok := impl.Step(r, now, 10); ok || got != r {
					t.Fatalf("Step(%v, %d, 10) = %v, %v", r, now, got, ok)
				}
			}
		}
	}
}

// What fresh is counts where it becomes New, and nowhere else.
func TestStepFresh(t *testing.T) {
	for _, main := range edgeSecrets {
		for _, old := range edgeSecrets {
			stable := rollOf(1, main, old, 0, 5)
			for _, fresh := range append([]int64{main, old}, noSecrets...) {
				if got, ok := impl.Step(stable, 105, fresh); ok || got != stable {
					t.Fatalf("Step(%v, 105, %d) = %v, %v", stable, fresh, got, ok)
				}
			}
			for _, fresh := range edgeSecrets {
				if got, ok := impl.Step(stable, 105, fresh); ok != (fresh != main && fresh != old) || ok && got.New != fresh {
					t.Fatalf("Step(%v, 105, %d) = %v, %v", stable, fresh, got, ok)
				}
			}
			// New may be any secret, that which it stands beside, too: the Roll is right all the same.
			for _, next := range append([]int64{main, old}, edgeSecrets...) {
				for _, fresh := range slices.Concat([]int64{main, old, next}, edgeSecrets, noSecrets) {
					if got, ok := impl.Step(rollOf(2, main, old, next, 5), 105, fresh); !ok || got != rollOf(3, main, old, next, 105) {
						t.Fatalf("of ready, New %d, fresh %d: %v, %v", next, fresh, got, ok)
					}
					if got, ok := impl.Step(rollOf(3, main, old, next, 5), 105, fresh); !ok || got != rollOf(1, main, next, 0, 105) {
						t.Fatalf("of moved, New %d, fresh %d: %v, %v", next, fresh, got, ok)
					}
				}
			}
		}
	}
}

// One secret more than once is told as often: what is Served has a key for each place.
func TestServedOfOneSecretTwice(t *testing.T) {
	seven, eight := mustKey(t, 7), mustKey(t, 8)
	for _, c := range []struct {
		roll    impl.Roll
		signing int64
		served  []impl.Point
	}{
		{rollOf(1, 7, 7, 0, 0), 7, []impl.Point{seven, seven}},
		{rollOf(2, 7, 7, 8, 0), 7, []impl.Point{seven, seven, eight}},
		{rollOf(3, 7, 7, 8, 0), 8, []impl.Point{seven, seven, eight}},
		{rollOf(2, 7, 8, 8, 0), 8, []impl.Point{seven, eight, eight}},
		{rollOf(3, 7, 8, 8, 0), 8, []impl.Point{seven, eight, eight}},
		{rollOf(2, 7, 8, 7, 0), 8, []impl.Point{seven, eight, seven}},
		{rollOf(3, 7, 8, 7, 0), 7, []impl.Point{seven, eight, seven}},
		{rollOf(3, 7, 7, 7, 0), 7, []impl.Point{seven, seven, seven}},
	} {
		if got := impl.Served(c.roll); !slices.Equal(got, c.served) || impl.Signing(c.roll) != c.signing {
			t.Errorf("%v serves %v, signed by %d", c.roll, got, impl.Signing(c.roll))
		}
	}
}

func mustKey(t *testing.T, secret int64) impl.Point {
	t.Helper()
	key, ok := impl.KeyOf(secret)
	if !ok {
		t.Fatalf("KeyOf(%d)", secret)
	}
	return key
}

// A taken is what a Roll says at a time, behind the Steps of that time.
type taken struct {
	now     int64
	roll    impl.Roll
	served  []impl.Point
	signing int64
	key     impl.Point
}

func takenAt(t *testing.T, r impl.Roll, now int64) taken {
	t.Helper()
	if !impl.RollOk(r) {
		t.Fatalf("at %d: %v is not RollOk", now, r)
	}
	signing := impl.Signing(r)
	return taken{now: now, roll: r, served: impl.Served(r), signing: signing, key: mustKey(t, signing)}
}

// A walker says how long to wait, and which secret to try then.
type walker struct {
	wait  func() int64
	fresh func() int64
}

// walk begins at the Roll's own time; at each time it tries to Step more than once, as nobody knows how often one will.
func walk(t *testing.T, r impl.Roll, w walker, times int) []taken {
	t.Helper()
	now := r.At
	list := []taken{takenAt(t, r, now)}
	for range times {
		now += w.wait()
		if now > 1000000 {
			break
		}
		for range 2 {
			r, _ = impl.Step(r, now, w.fresh())
		}
		list = append(list, takenAt(t, r, now))
	}
	return list
}

// near are all pairs of times that are at most MaxTtl apart, in either order, each with itself.
func near(list []taken, ask func(signs, serves taken)) {
	for i, a := range list {
		for _, b := range list[i:] {
			if b.now-a.now > 100 {
				break
			}
			ask(a, b)
			ask(b, a)
		}
	}
}

func drawFrom(seed uint32) func(n int) int {
	return func(n int) int {
		seed = seed*1664525 + 1013904223
		return int(seed>>8) % n
	}
}

func drawnWalker(seed uint32, waits, secrets []int64) walker {
	draw := drawFrom(seed)
	return walker{
		wait:  func() int64 { return waits[draw(len(waits))] },
		fresh: func() int64 { return secrets[draw(len(secrets))] },
	}
}

// manyWaits: at every tick, just at MaxTtl, around it, rarely, and all of them mixed.
func manyWaits() [][]int64 {
	return [][]int64{{1}, {50}, {99}, {100}, {101}, {25, 75}, {1, 99}, {99, 100, 101}, {1, 2, 3, 50, 98}, {300, 1}, {1, 10, 33, 50, 99, 100, 101, 150, 200, 1000}}
}

// walks are of many waits, from new Rolls and from ones in every phase, up to the last time, with few secrets and with many.
func walks(t *testing.T, times int) [][]taken {
	t.Helper()
	few, wrong := []int64{1, 7, 8, 9, 10}, []int64{0, -1, 2549, 7, 8, 9, 10, 11, 12, 2548}
	all := []int64{}
	for secret := int64(1); secret <= 2548; secret++ {
		all = append(all, secret)
	}
	list := [][]taken{}
	for i, waits := range manyWaits() {
		for j, secrets := range [][]int64{few, wrong, all} {
			w := drawnWalker(uint32(100*i+j), waits, secrets)
			for _, start := range []impl.Roll{mustRoll(t, 7, 8, 0), mustRoll(t, 7, 7, 13), mustRoll(t, 1, 2548, 999500), rollOf(2, 7, 8, 9, 50), rollOf(3, 7, 8, 9, 77), rollOf(2, 7, 8, 8, 1), rollOf(3, 7, 8, 7, 2)} {
				list = append(list, walk(t, start, w, times))
			}
		}
	}
	return list
}

// Promise 10: what signs at the one time is among what is Served at the other.
func TestPromise10KeysMeet(t *testing.T) {
	t.Parallel()
	count := map[[2]int64]int{}
	for n, list := range walks(t, 700) {
		near(list, func(signs, serves taken) {
			if !slices.Contains(serves.served, signs.key) {
				t.Fatalf("walk %d: %v signs at %d, %v at %d does not serve it", n, signs.roll, signs.now, serves.roll, serves.now)
			}
			count[[2]int64{signs.roll.Phase, serves.roll.Phase}]++
		})
	}
	for _, both := range [][2]int64{{1, 1}, {1, 2}, {2, 1}, {2, 2}, {2, 3}, {3, 2}, {3, 3}, {3, 1}, {1, 3}} {
		if count[both] < 100 {
			t.Errorf("phases %v met %d times", both, count[both])
		}
	}
}

// Promise 10 at its edge: times just MaxTtl apart, with a Step at the later one; one more, and a key can be new.
func TestPromise10AtTheEdge(t *testing.T) {
	t.Parallel()
	waits := func(first int64) walker {
		next, fresh := first, int64(8)
		return walker{wait: func() int64 { wait := next; next = 100; return wait }, fresh: func() int64 { fresh++; return fresh }}
	}
	for first := int64(100); first < 203; first++ {
		list := walk(t, mustRoll(t, 7, 8, 0), waits(first), 40)
		apart := 0
		near(list, func(signs, serves taken) {
			if !slices.Contains(serves.served, signs.key) {
				t.Fatalf("%v signs at %d, %v at %d does not serve it", signs.roll, signs.now, serves.roll, serves.now)
			}
			if signs.now-serves.now == 100 {
				apart++
			}
		})
		if apart < 39 {
			t.Errorf("only %d are just MaxTtl apart", apart)
		}
	}
	// Two Steps lie between these, so the promise's 100 is not to be had longer: the tests see where it ends.
	stable, moved := mustRoll(t, 7, 8, 0), mustStep(t, mustStep(t, mustRoll(t, 7, 8, 0), 100, 9), 200, 0)
	if slices.Contains(impl.Served(stable), mustKey(t, impl.Signing(moved))) {
		t.Error("New is Served before it is there")
	}
}

// Promise 10: every pair out of a tick by tick walk, in which each Step is made as soon as it can be.
func TestPromise10TickByTick(t *testing.T) {
	t.Parallel()
	for _, start := range []int64{0, 1, 999000} {
		fresh := int64(100)
		w := walker{wait: func() int64 { return 1 }, fresh: func() int64 { fresh++; return fresh }}
		list := walk(t, mustRoll(t, 7, 8, start), w, 1000)
		steps := 0
		for i, one := range list {
			if i > 0 && one.roll != list[i-1].roll {
				steps++
				if one.roll.At != one.now || one.now%100 != start%100 {
					t.Fatalf("a Step at %d: %v", one.now, one.roll)
				}
			}
		}
		if len(list) != 1001 || steps != 10 {
			t.Fatalf("%d times, %d Steps", len(list), steps)
		}
		near(list, func(signs, serves taken) {
			if !slices.Contains(serves.served, signs.key) {
				t.Fatalf("%v signs at %d, %v at %d does not serve it", signs.roll, signs.now, serves.roll, serves.now)
			}
		})
	}
}

// deedOfRoll is what those who check have: the keys that were Served at a time, sealed by Main.
func deedOfRoll(t *testing.T, one taken) impl.Deed {
	t.Helper()
	seal := mustSeal(t, one.roll.Main, "zone "+impl.KeysText(one.served), 1000000)
	return impl.Deed{Zone: "zone", Keys: one.served, Seal: seal}
}

// Promise 10 as it is used: a Seal by Signing is Trusted by the keys that were Served up to MaxTtl before, and by those up to MaxTtl behind it.
func TestPromise10SealsAreTrusted(t *testing.T) {
	t.Parallel()
	asked, moved := 0, 0
	for n, waits := range manyWaits() {
		if len(waits) == 1 && waits[0] == 1 {
			waits = []int64{20}
		}
		list := walk(t, mustRoll(t, 7, 8, int64(n)), drawnWalker(uint32(n), waits, []int64{9, 10, 11, 12, 13, 2548}), 40)
		near(list, func(signs, serves taken) {
			text := fmt.Sprint("said at ", signs.now)
			later := max(signs.now, serves.now)
			s, d := mustSeal(t, signs.signing, text, later+1), deedOfRoll(t, serves)
			if !impl.Trusted(impl.DsOf(d), d, s, text, later) {
				t.Fatalf("%v seals at %d, by the keys of %v at %d it is not Trusted", signs.roll, signs.now, serves.roll, serves.now)
			}
			asked++
			if signs.roll.At != serves.roll.At {
				moved++
			}
		})
	}
	if asked < 1000 || moved < 300 {
		t.Errorf("%d asked, %d over a Step", asked, moved)
	}
}

// A Seal until MaxTtl behind its time Holds till then, and the keys of every time till then can check it.
func TestPromise10SealsTillTheyEnd(t *testing.T) {
	fresh := int64(8)
	w := walker{wait: func() int64 { return 10 }, fresh: func() int64 { fresh++; return fresh }}
	list := walk(t, mustRoll(t, 7, 8, 0), w, 90)
	for i, one := range list {
		s := mustSeal(t, one.signing, "hi", one.now+100)
		for _, then := range list[i:min(i+12, len(list))] {
			d := deedOfRoll(t, then)
			if got := impl.Trusted(impl.DsOf(d), d, s, "hi", then.now); got != (then.now < one.now+100) {
				t.Fatalf("sealed at %d, Trusted %v at %d", one.now, got, then.now)
			}
		}
	}
}

// A second Step at one time is never made, nor is one that goes back.
func TestStepOncePerTime(t *testing.T) {
	for _, r := range []impl.Roll{rollOf(1, 7, 8, 0, 300), rollOf(2, 7, 8, 9, 300), rollOf(3, 7, 8, 9, 300)} {
		next := mustStep(t, r, 400, 10)
		for _, now := range []int64{0, 199, 200, 299, 300, 301, 399, 400, 401, 499} {
			if got, ok := impl.Step(next, now, 11); ok || got != next {
				t.Errorf("Step(%v, %d, 11) = %v, %v", next, now, got, ok)
			}
		}
		mustStep(t, next, 500, 11)
	}
}

// rollArguments are right and wrong ones.
func rollArguments() []impl.Roll {
	return append(rightRolls(), noRolls()...)
}

// rollAnswer is all that chapter 10 answers of one Roll.
type rollAnswer struct {
	made, next             impl.Roll
	madeOk, nextOk, rollOk bool
	signing                int64
	served                 []impl.Point
}

func rollAnswers(r impl.Roll, now, fresh int64) (a rollAnswer) {
	a.made, a.madeOk = impl.NewRoll(r.Main, r.Old, r.At)
	a.next, a.nextOk = impl.Step(r, now, fresh)
	a.rollOk = impl.RollOk(r)
	a.signing = impl.Signing(r)
	a.served = impl.Served(r)
	return a
}

func (a rollAnswer) same(b rollAnswer) bool {
	return a.made == b.made && a.next == b.next && a.madeOk == b.madeOk && a.nextOk == b.nextOk && a.rollOk == b.rollOk && a.signing == b.signing && slices.Equal(a.served, b.served)
}

// Promise 21 of chapter 10: what Served answers is nobody else's, nor is the room behind it.
func TestPromise21ServedIsNew(t *testing.T) {
	round := newSignRound(t)
	for _, r := range rollArguments() {
		was := r
		first, second := impl.Served(r), impl.Served(r)
		scribbleOn(first[:cap(first)], impl.Point{X: -9, Y: -9})
		_ = append(first, impl.Point{X: -8, Y: -8})
		if want := servedByWords(round, r); !slices.Equal(second, want) || !slices.Equal(impl.Served(r), want) {
			t.Fatalf("Served(%v) became %v, then %v", r, second, impl.Served(r))
		}
		next, ok := impl.Step(r, r.At+100, 9)
		if want, wantOk := stepByWords(was, was.At+100, 9); next != want || ok != wantOk || r != was {
			t.Fatalf("behind what was written: Step(%v) = %v, %v", r, next, ok)
		}
	}
}

// Promise 21: the Roll that was handed in stays, and a Step changes none but its own answer.
func TestPromise21RollArgumentsStay(t *testing.T) {
	for _, r := range rollArguments() {
		was := r
		for _, now := range someNows(r) {
			got := rollAnswers(r, now, 9)
			got.next.Old, got.made.Main = -9, -9
			if r != was || !rollAnswers(r, now, 9).same(rollAnswers(was, now, 9)) {
				t.Fatalf("%v became %v", was, r)
			}
		}
	}
}

// Promise 21: each argument gets the same answer again, whatever was asked between.
func TestPromise21RollAgain(t *testing.T) {
	rolls := rollArguments()
	answer := func(i int) rollAnswer {
		r := rolls[i]
		nows, fresh := someNows(r), someFresh(r)
		return rollAnswers(r, nows[i*7%len(nows)], fresh[i*3%len(fresh)])
	}
	first := []rollAnswer{}
	for i := range rolls {
		first = append(first, answer(i))
	}
	for i, want := range slices.Backward(first) {
		if got := answer(i); !got.same(want) {
			t.Fatalf("%v: %v, then %v", rolls[i], want, got)
		}
		if !want.nextOk && want.rollOk && want.next != rolls[i] {
			t.Fatalf("%v: no Step, but %v", rolls[i], want.next)
		}
		if !want.madeOk && want.made != (impl.Roll{}) {
			t.Fatalf("%v: no new Roll, but %v", rolls[i], want.made)
		}
	}
}
