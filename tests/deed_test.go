package tests

import (
	"fmt"
	"math"
	"slices"
	"strings"
	"testing"

	"loop.example/g00307/impl"
)

// The constant has no kind of its own, so that it goes with any number.
const _ float64 = impl.MaxTime

// noTimes are wrong on either side, the nearest and the farthest.
var noTimes = []int64{math.MinInt64, math.MinInt64 + 1, -impl.MaxTime, -2, -1, 1000001, 1000002, 2 * impl.MaxTime, 1<<32 + 5, math.MaxInt64 - 1, math.MaxInt64}

// edgeTimes are both ends and a few between.
var edgeTimes = []int64{0, 1, 2, 9, 10, 11, 99, 100, 1000, 65536, 500000, 999998, 999999, 1000000}

// deedTexts are of no byte, with blanks and line ends, like what is sealed itself, and long.
func deedTexts() []string {
	return []string{"", "hi", "ho", " ", "  ", " hi", "hi ", "a b", "a  b", "\n", "\n\n", "a\nb\n", "\r\n", " \n \n", "\x00", "\xff", "é", "0", "20 hi", "1000000 ", "zone 7405 8341 ", strings.Repeat("x", 300), strings.Repeat("a b\n", 200)}
}

func timeByWords(time int64) bool { return time >= 0 && time <= 1000000 }

func sealedByWords(until int64, text string) string { return fmt.Sprintf("%d %s", until, text) }

func (round signRound) isPoint(p impl.Point) bool {
	_, ok := round.place[p]
	return ok
}

func (round signRound) areKeys(keys []impl.Point) bool {
	return len(keys) <= 4 && !slices.ContainsFunc(keys, func(p impl.Point) bool { return !round.isPoint(p) })
}

func (round signRound) seal(secret int64, text string, until int64) impl.Seal {
	return impl.Seal{Key: round.timesBase(secret), Until: until, Sig: round.signed(secret, sealedByWords(until, text))}
}

func (round signRound) holds(s impl.Seal, text string, now int64) bool {
	right := timeByWords(now) && timeByWords(s.Until) && s.Until > now && round.isPoint(s.Key) && round.isPoint(s.Sig.R) && s.Sig.T >= 0 && s.Sig.T <= 2548
	return right && round.valid(s.Key, sealedByWords(s.Until, text), s.Sig)
}

// keysByPrint writes what it is given, right or wrong.
func keysByPrint(keys []impl.Point) string {
	text := ""
	for _, p := range keys {
		text += fmt.Sprintf("%d %d ", p.X, p.Y)
	}
	return text
}

// dsByPrint is Hash of what it is given, right or wrong.
func dsByPrint(d impl.Deed) int64 {
	return hashByPlaces(fmt.Sprintf("%s %d %d ", d.Zone, d.Seal.Key.X, d.Seal.Key.Y))
}

func (round signRound) trusted(ds int64, d impl.Deed, s impl.Seal, text string, now int64) bool {
	right := nameByPattern(d.Zone) && len(d.Keys) > 0 && round.areKeys(d.Keys) && round.isPoint(d.Seal.Key) && ds == dsByPrint(d)
	one := slices.Contains(d.Keys, d.Seal.Key) && slices.Contains(d.Keys, s.Key)
	return right && one && round.holds(d.Seal, d.Zone+" "+keysByPrint(d.Keys), now) && round.holds(s, text, now)
}

// keys are those of the secrets, in this order.
func (round signRound) keys(secrets ...int64) []impl.Point {
	list := []impl.Point{}
	for _, secret := range secrets {
		list = append(list, round.timesBase(secret))
	}
	return list
}

// deed is sealed by this secret, whether its key is one of them or not, and whatever they are.
func (round signRound) deed(zone string, keys []impl.Point, by, until int64) impl.Deed {
	return impl.Deed{Zone: zone, Keys: keys, Seal: round.seal(by, zone+" "+keysByPrint(keys), until)}
}

func cloneDeed(d impl.Deed) impl.Deed {
	d.Keys = slices.Clone(d.Keys)
	return d
}

func sameDeed(a, b impl.Deed) bool {
	return a.Zone == b.Zone && slices.Equal(a.Keys, b.Keys) && a.Seal == b.Seal
}

// mustSeal is SealOf where the secret is one and until a time.
func mustSeal(t *testing.T, secret int64, text string, until int64) impl.Seal {
	t.Helper()
	s, ok := impl.SealOf(secret, text, until)
	if !ok {
		t.Fatalf("SealOf(%d, %.20q, %d) = %v", secret, text, until, s)
	}
	return s
}

func askTrusted(t *testing.T, round signRound, ds int64, d impl.Deed, s impl.Seal, text string, now int64) bool {
	t.Helper()
	want := round.trusted(ds, d, s, text, now)
	if got := impl.Trusted(ds, d, s, text, now); got != want {
		t.Fatalf("Trusted(%d, %v, %v, %.20q, %d) is %v", ds, d, s, text, now, got)
	}
	return want
}

func askIsNotTrusted(t *testing.T, what string, ds int64, d impl.Deed, s impl.Seal, text string, now int64) {
	t.Helper()
	if impl.Trusted(ds, d, s, text, now) {
		t.Errorf("%s: Trusted(%d, %v, %v, %.20q, %d)", what, ds, d, s, text, now)
	}
}

func TestDeedKnown(t *testing.T) {
	if impl.MaxTime != 1000000 {
		t.Fatal(impl.MaxTime)
	}
	s := mustSeal(t, 5, "hi", 20)
	key, sig := mustSign(t, 5, "20 hi")
	if s != (impl.Seal{Key: key, Until: 20, Sig: sig}) || !impl.Holds(s, "hi", 19) || impl.Holds(s, "hi", 20) || impl.Holds(s, "ho", 19) {
		t.Error(s)
	}
	d := impl.Deed{Zone: "zone", Keys: []impl.Point{{X: 7405, Y: 8341}, impl.Base()}}
	if got := impl.KeysText(d.Keys); got != "7405 8341 2791 6375 " {
		t.Errorf("KeysText %q", got)
	}
	d.Seal = mustSeal(t, 5, "zone 7405 8341 2791 6375 ", 30)
	ds := impl.DsOf(d)
	if ds != 1269103477 || ds != impl.Hash("zone 7405 8341 ") {
		t.Errorf("DsOf %d", ds)
	}
	if !impl.Trusted(ds, d, s, "hi", 19) || impl.Trusted(ds, d, s, "hi", 20) || impl.Trusted(ds+1, d, s, "hi", 19) || impl.Trusted(ds, d, mustSeal(t, 6, "hi", 20), "hi", 19) {
		t.Error("Trusted")
	}
}

func TestSealOf(t *testing.T) {
	t.Parallel()
	round, texts := newSignRound(t), deedTexts()
	for _, secret := range edgeSecrets {
		for _, until := range edgeTimes {
			for _, text := range texts {
				if got := mustSeal(t, secret, text, until); got != round.seal(secret, text, until) {
					t.Fatalf("SealOf(%d, %.20q, %d) = %v", secret, text, until, got)
				}
			}
		}
	}
	for secret := int64(1); secret <= 2548; secret++ {
		text, until := texts[int(secret)%len(texts)], secret*392
		if got := mustSeal(t, secret, text, until); got != round.seal(secret, text, until) {
			t.Fatalf("SealOf(%d, %.20q, %d) = %v", secret, text, until, got)
		}
	}
}

func TestSealOfWrong(t *testing.T) {
	ask := func(secret int64, text string, until int64) {
		t.Helper()
		if s, ok := impl.SealOf(secret, text, until); ok || s != (impl.Seal{}) {
			t.Errorf("SealOf(%d, %.20q, %d) = %v, %v", secret, text, until, s, ok)
		}
	}
	for _, text := range []string{"", "hi", "a b\n"} {
		for _, secret := range noSecrets {
			for _, until := range append(slices.Clone(edgeTimes), noTimes...) {
				ask(secret, text, until)
			}
		}
		for _, until := range noTimes {
			for _, secret := range edgeSecrets {
				ask(secret, text, until)
			}
		}
	}
}

// Promise 9: at each time below Until, and at none from it on.
func TestPromise9HoldsBelowUntil(t *testing.T) {
	t.Parallel()
	texts := deedTexts()
	for i, secret := range edgeSecrets {
		for j, until := range edgeTimes {
			text := texts[(i*5+j)%len(texts)]
			s := mustSeal(t, secret, text, until)
			for _, now := range append([]int64{until - 1, until, until + 1}, edgeTimes...) {
				if got := impl.Holds(s, text, now); got != (now >= 0 && now < until) {
					t.Fatalf("secret %d, %.20q, until %d: at %d Holds %v", secret, text, until, now, got)
				}
			}
			for _, now := range noTimes {
				if impl.Holds(s, text, now) {
					t.Fatalf("secret %d, %.20q, until %d: Holds at %d", secret, text, until, now)
				}
			}
		}
	}
	for _, until := range []int64{0, 1, 2, 700} {
		s := mustSeal(t, 7, "each time", until)
		for now := int64(-3); now <= 1000; now++ {
			if got := impl.Holds(s, "each time", now); got != (now >= 0 && now < until) {
				t.Fatalf("until %d: at %d Holds %v", until, now, got)
			}
		}
	}
}

func TestPromise9HoldsOfEachText(t *testing.T) {
	texts := deedTexts()
	for _, secret := range []int64{1, 5, 2548} {
		for _, until := range []int64{1, 20, 1000000} {
			for _, text := range texts {
				s := mustSeal(t, secret, text, until)
				for _, other := range texts {
					want := impl.Challenge(s.Sig.R, s.Key, sealedByWords(until, text)) == impl.Challenge(s.Sig.R, s.Key, sealedByWords(until, other))
					if got := impl.Holds(s, other, until-1); got != want || text == other && !got {
						t.Fatalf("secret %d, until %d: the Seal of %.20q Holds %v of %.20q", secret, until, text, got, other)
					}
				}
			}
		}
	}
}

// Promise 9: of another text just where the Challenge of both is the same.
func TestPromise9NoOtherText(t *testing.T) {
	t.Parallel()
	count := map[bool]int{}
	for _, secret := range []int64{1, 2, 5, 1274, 2548} {
		s := mustSeal(t, secret, "one", 1000000)
		challenge := impl.Challenge(s.Sig.R, s.Key, "1000000 one")
		for n := range 6000 {
			text := fmt.Sprint("other ", n)
			want := impl.Challenge(s.Sig.R, s.Key, "1000000 "+text) == challenge
			if impl.Holds(s, text, 999999) != want {
				t.Fatalf("secret %d: Holds of %q is not %v", secret, text, want)
			}
			if impl.Holds(s, text, 1000000) {
				t.Fatalf("secret %d: Holds of %q behind its time", secret, text)
			}
			count[want]++
		}
	}
	if count[true] == 0 || count[false] == 0 {
		t.Error(count)
	}
}

// askHolds asks at times around Until, against what is worked out another way; it says what Holds just below Until.
func askHolds(t *testing.T, round signRound, s impl.Seal, text string) bool {
	t.Helper()
	below := s.Until - 1
	for _, now := range []int64{below, s.Until, 0, -1, 1000000, 1000001} {
		want := round.holds(s, text, now)
		valid := timeByWords(now) && timeByWords(s.Until) && now < s.Until && impl.Valid(s.Key, sealedByWords(s.Until, text), s.Sig)
		if got := impl.Holds(s, text, now); got != want || got != valid {
			t.Fatalf("%v Holds %v of %.20q at %d", s, got, text, now)
		}
	}
	return round.holds(s, text, below)
}

// Promise 9: with another Key just where the Sig is Valid by it.
func TestPromise9NoOtherKey(t *testing.T) {
	t.Parallel()
	round, count := newSignRound(t), map[bool]int{}
	for _, secret := range []int64{1, 5, 2548} {
		s := mustSeal(t, secret, "hi", 20)
		right := s.Key
		for _, s.Key = range round.list {
			if s.Key != right {
				count[askHolds(t, round, s, "hi")]++
			}
		}
	}
	if count[true] == 0 || count[false] == 0 {
		t.Error(count)
	}
}

// Promise 9: with another Until just where the Sig is Valid for what is then sealed, and never where that is no time.
func TestPromise9NoOtherUntil(t *testing.T) {
	t.Parallel()
	round, count := newSignRound(t), map[bool]int{}
	for _, secret := range []int64{1, 5, 2548} {
		s := mustSeal(t, secret, "hi", 20)
		for until := int64(1); until <= 9000; until++ {
			if s.Until = until; until != 20 {
				count[askHolds(t, round, s, "hi")]++
			}
		}
		for _, s.Until = range slices.Concat(edgeTimes, noTimes) {
			askHolds(t, round, s, "hi")
		}
	}
	if count[true] == 0 || count[false] == 0 {
		t.Error(count)
	}
}

// Until is said once: digits may not go over to the text, nor from it.
func TestPromise9UntilIsApart(t *testing.T) {
	round := newSignRound(t)
	s := mustSeal(t, 5, "3 hi", 2)
	for _, text := range []string{"hi", " hi", "3 hi", "3  hi", "23 hi"} {
		for _, s.Until = range []int64{2, 3, 23, 203} {
			if got := askHolds(t, round, s, text); got != (s.Until == 2 && text == "3 hi") {
				t.Errorf("until %d of %q: %v", s.Until, text, got)
			}
		}
	}
}

// An Until that is no time is none, though it is rightly signed.
func TestHoldsUntilNoTime(t *testing.T) {
	for _, until := range noTimes {
		for _, text := range []string{"", "hi"} {
			key, sig := mustSign(t, 5, sealedByWords(until, text))
			s := impl.Seal{Key: key, Until: until, Sig: sig}
			for _, now := range slices.Concat(edgeTimes, noTimes, []int64{until - 1}) {
				if impl.Holds(s, text, now) {
					t.Errorf("until %d Holds at %d", until, now)
				}
			}
			d := impl.Deed{Zone: "zone", Keys: []impl.Point{key}, Seal: mustSeal(t, 5, "zone "+keysByPrint([]impl.Point{key}), 1000000)}
			askIsNotTrusted(t, "a Seal until no time", impl.DsOf(d), d, s, text, 0)
			d.Seal.Until = until
			_, d.Seal.Sig = mustSign(t, 5, sealedByWords(until, "zone "+keysByPrint(d.Keys)))
			askIsNotTrusted(t, "a Deed until no time", impl.DsOf(d), d, mustSeal(t, 5, text, 10), text, 0)
		}
	}
}

// Promise 9: with another T never, with another R just where that Sig is Valid.
func TestPromise9NoOtherSig(t *testing.T) {
	t.Parallel()
	round, count := newSignRound(t), map[bool]int{}
	for _, secret := range []int64{1, 5, 2548} {
		for _, text := range []string{"", "hi", "a b\n"} {
			s := mustSeal(t, secret, text, 20)
			right := s.Sig
			for T := int64(-2); T <= 2550; T++ {
				s.Sig.T = T
				if got := impl.Holds(s, text, 19); got != (T == right.T) {
					t.Fatalf("secret %d, %q: with T %d, not %d, Holds %v", secret, text, T, right.T, got)
				}
			}
			for _, s.Sig.T = range append([]int64{right.T - impl.Order, right.T + impl.Order}, wrongT...) {
				if impl.Holds(s, text, 19) {
					t.Fatalf("secret %d, %q: Holds with T %d", secret, text, s.Sig.T)
				}
			}
			s.Sig = right
			for _, s.Sig.R = range round.list {
				if s.Sig.R != right.R {
					count[askHolds(t, round, s, text)]++
				}
			}
		}
	}
	if count[true] == 0 || count[false] == 0 {
		t.Error(count)
	}
}

// A Sig of another Seal is Valid just where it would be for this one.
func TestPromise9NoSigOfAnother(t *testing.T) {
	round, texts := newSignRound(t), deedTexts()
	for i, text := range texts {
		other := texts[(i+1)%len(texts)]
		s := mustSeal(t, 5, text, 20)
		for _, from := range []impl.Seal{mustSeal(t, 5, other, 20), mustSeal(t, 5, text, 21), mustSeal(t, 6, text, 20)} {
			askHolds(t, round, impl.Seal{Key: s.Key, Until: s.Until, Sig: from.Sig}, text)
			askHolds(t, round, impl.Seal{Key: from.Key, Until: s.Until, Sig: s.Sig}, text)
			askHolds(t, round, impl.Seal{Key: s.Key, Until: from.Until, Sig: s.Sig}, text)
		}
		_, plain := mustSign(t, 5, text)
		askHolds(t, round, impl.Seal{Key: s.Key, Until: 20, Sig: plain}, text)
	}
}

// Seals that nobody made: of Nought, which is nobody's key, and of Points out of Base's round.
func TestHoldsOfAnyPoints(t *testing.T) {
	round, count := newSignRound(t), map[bool]int{}
	places := []int64{0, 1, 2549, 5098, 7647, 10195, round.base, 2 * round.base % allPoints, 1234}
	for _, i := range places {
		for _, j := range places {
			for n := range 6 {
				s := impl.Seal{Key: round.list[i], Until: int64(20 + n), Sig: impl.Sig{R: round.list[j]}}
				fitting := round.fitting(s.Key, sealedByWords(s.Until, "any"), s.Sig.R)
				for _, s.Sig.T = range []int64{0, 1, 2548, fitting} {
					count[askHolds(t, round, s, "any")]++
				}
			}
		}
	}
	if count[true] < 50 || count[false] < 50 {
		t.Error(count)
	}
}

func TestHoldsOfNoPoint(t *testing.T) {
	s := mustSeal(t, 5, "hi", 20)
	for _, bad := range append(noPoints(), impl.Point{X: s.Key.X + impl.P, Y: s.Key.Y}, impl.Point{X: s.Sig.R.X, Y: s.Sig.R.Y - impl.P}) {
		for _, T := range []int64{-1, 0, 1, s.Sig.T, 2548, 2549} {
			for _, wrong := range []impl.Seal{
				{Key: bad, Until: 20, Sig: impl.Sig{R: s.Sig.R, T: T}},
				{Key: s.Key, Until: 20, Sig: impl.Sig{R: bad, T: T}},
				{Key: bad, Until: 20, Sig: impl.Sig{R: bad, T: T}},
			} {
				for _, text := range []string{"", "hi"} {
					if impl.Holds(wrong, text, 0) || impl.Holds(wrong, text, 19) {
						t.Fatalf("%v Holds of %q", wrong, text)
					}
				}
			}
		}
	}
	for _, zero := range []impl.Seal{{}, {Until: 20}, {Key: s.Key, Until: 20}, {Until: 20, Sig: s.Sig}} {
		if impl.Holds(zero, "hi", 0) || impl.Holds(zero, "", 0) {
			t.Errorf("%v Holds", zero)
		}
	}
}

// someKeys are lists of right Points, of 0 to 4.
func someKeys(round signRound) [][]impl.Point {
	nought, base := impl.Point{X: 0, Y: 1}, impl.Point{X: 2791, Y: 6375}
	one, out := round.timesBase(5), impl.Point{X: 1, Y: 0}
	return [][]impl.Point{
		nil, {}, {nought}, {base}, {one}, {out}, {{X: 0, Y: 10006}}, {nought, base}, {base, nought}, {one, one}, {nought, nought}, {one, base, one}, {base, one, out},
		{nought, base, one, out}, {one, one, one, one}, {base, base, nought, nought}, round.keys(1, 2, 3, 4), round.keys(2548, 2547, 2546, 2545), round.keys(9, 5, 9, 5),
	}
}

func TestKeysText(t *testing.T) {
	round := newSignRound(t)
	for _, list := range someKeys(round) {
		if got, want := impl.KeysText(list), keysByPrint(list); got != want {
			t.Errorf("KeysText(%v) = %q", list, got)
		}
	}
	for text, list := range map[string][]impl.Point{
		"":                                   {},
		"0 1 ":                               {impl.Nought()},
		"2791 6375 ":                         {impl.Base()},
		"0 1 2791 6375 ":                     {impl.Nought(), impl.Base()},
		"2791 6375 2791 6375 ":               {impl.Base(), impl.Base()},
		"7405 8341 2791 6375 0 1 7405 8341 ": {{X: 7405, Y: 8341}, impl.Base(), impl.Nought(), {X: 7405, Y: 8341}},
	} {
		if got := impl.KeysText(list); got != text {
			t.Errorf("KeysText(%v) = %q", list, got)
		}
	}
	for i, p := range round.list {
		if got := impl.KeysText(round.list[i:min(i+1+i%4, len(round.list))]); !strings.HasPrefix(got, fmt.Sprintf("%d %d ", p.X, p.Y)) {
			t.Fatalf("KeysText of %v and on is %q", p, got)
		}
	}
}

func TestKeysTextWrong(t *testing.T) {
	round := newSignRound(t)
	for _, n := range []int{5, 6, 8, 100, 10196} {
		if got := impl.KeysText(round.list[:n]); got != "" {
			t.Errorf("KeysText of %d is %q", n, got)
		}
		if got := impl.KeysText(slices.Repeat(round.keys(5), n)); got != "" {
			t.Errorf("KeysText of one, %d times, is %q", n, got)
		}
	}
	for _, bad := range noPoints() {
		for _, list := range someKeys(round) {
			for at := range len(list) + 1 {
				if got := impl.KeysText(slices.Insert(slices.Clone(list), at, bad)); got != "" {
					t.Fatalf("KeysText of %v and %v at %d is %q", list, bad, at, got)
				}
			}
		}
		if got := impl.KeysText([]impl.Point{bad, bad}); got != "" {
			t.Fatalf("KeysText of %v twice is %q", bad, got)
		}
	}
}

func TestDsOf(t *testing.T) {
	round := newSignRound(t)
	for _, zone := range edgeNames() {
		for _, keys := range append(someKeys(round), round.keys(1, 2, 3, 4, 5), noPoints()[:3]) {
			for _, key := range []impl.Point{{X: 0, Y: 1}, {X: 2791, Y: 6375}, {X: 1, Y: 0}, round.timesBase(5), round.timesBase(2548)} {
				// Nothing but Zone and Key counts: not Until, not the Sig, not the Keys.
				for _, seal := range []impl.Seal{{Key: key}, {Key: key, Until: -1, Sig: impl.Sig{T: 7}}, {Key: key, Until: 20, Sig: round.signed(5, "hi")}} {
					d := impl.Deed{Zone: zone, Keys: keys, Seal: seal}
					if got, want := impl.DsOf(d), dsByPrint(d); got != want || got < 0 {
						t.Fatalf("DsOf(%v) = %d, not %d", d, got, want)
					}
				}
			}
		}
	}
	for _, p := range round.list {
		d := impl.Deed{Zone: "a.zone", Seal: impl.Seal{Key: p}}
		if got := impl.DsOf(d); got != dsByPrint(d) {
			t.Fatalf("DsOf(%v) = %d", d, got)
		}
	}
	if got := impl.DsOf(impl.Deed{Seal: impl.Seal{Key: impl.Nought()}}); got != impl.Hash(" 0 1 ") {
		t.Errorf("DsOf the root by Nought is %d", got)
	}
	if name := longestName(); len(name) != 60 || impl.DsOf(impl.Deed{Zone: name, Seal: impl.Seal{Key: impl.Base()}}) != impl.Hash(name+" 2791 6375 ") {
		t.Errorf("DsOf %q", name)
	}
}

func TestDsOfWrong(t *testing.T) {
	ask := func(d impl.Deed) {
		t.Helper()
		if got := impl.DsOf(d); got != -1 {
			t.Errorf("DsOf(%.200s) = %d", fmt.Sprint(d), got)
		}
	}
	key := impl.Point{X: 7405, Y: 8341}
	for _, zone := range noNames() {
		ask(impl.Deed{Zone: zone, Keys: []impl.Point{key}, Seal: impl.Seal{Key: key, Until: 20}})
		ask(impl.Deed{Zone: zone})
	}
	for _, bad := range noPoints() {
		for _, zone := range []string{"", "zone", longestName()} {
			ask(impl.Deed{Zone: zone, Keys: []impl.Point{key}, Seal: impl.Seal{Key: bad, Until: 20}})
			ask(impl.Deed{Zone: zone, Keys: []impl.Point{bad}, Seal: impl.Seal{Key: bad}})
		}
	}
	ask(impl.Deed{})
}

// A madeDeed is right, and the secrets of its Keys are known.
type madeDeed struct {
	deed    impl.Deed
	secrets []int64
	by      int64
}

// madeDeeds are made by what chapter 9 answers: of 1 to 4 Keys, sealed by each of them.
func madeDeeds(t *testing.T, until int64) []madeDeed {
	t.Helper()
	list := []madeDeed{}
	for i, secrets := range [][]int64{{1}, {5}, {2548}, {5, 9}, {9, 5}, {1, 2548}, {5, 5}, {7, 8, 9}, {1, 2, 3, 4}, {2548, 1, 2547, 2}, {5, 9, 5, 9}} {
		keys := []impl.Point{}
		for _, secret := range secrets {
			key, _ := impl.KeyOf(secret)
			keys = append(keys, key)
		}
		for _, zone := range []string{"zone", "", "a.b.c.d.e.f", longestName()}[:1+i%4] {
			for _, by := range secrets {
				d := impl.Deed{Zone: zone, Keys: slices.Clone(keys), Seal: mustSeal(t, by, zone+" "+impl.KeysText(keys), until)}
				list = append(list, madeDeed{d, secrets, by})
			}
		}
	}
	return list
}

// otherDs are near, far, of no use, and those of other Keys and zones.
func otherDs(made madeDeed) []int64 {
	own := dsByPrint(made.deed)
	list := []int64{own - 1, own + 1, -own, own ^ 1, own + 2147483647, own - 2147483647, own + 1<<32, 0, 1, -1, 17, 2147483646, 2147483647, math.MaxInt64, math.MinInt64, hashByPlaces(""), hashByPlaces(made.deed.Zone), hashByPlaces(made.deed.Zone + " " + keysByPrint(made.deed.Keys) + " ")}
	for _, key := range append(slices.Clone(made.deed.Keys), impl.Nought(), impl.Base()) {
		for _, zone := range []string{made.deed.Zone, "other"} {
			list = append(list, dsByPrint(impl.Deed{Zone: zone, Seal: impl.Seal{Key: key}}))
		}
	}
	return slices.DeleteFunc(list, func(ds int64) bool { return ds == own })
}

// Promise 9: what one of the Keys sealed is Trusted, what another key sealed is not, and by any other ds nothing is.
func TestPromise9TrustedFromADeedOn(t *testing.T) {
	t.Parallel()
	round := newSignRound(t)
	for i, made := range madeDeeds(t, 20) {
		d, ds := made.deed, impl.DsOf(made.deed)
		text := deedTexts()[i%len(deedTexts())]
		for _, secret := range made.secrets {
			s := mustSeal(t, secret, text, 20)
			for _, now := range []int64{0, 1, 19} {
				if !impl.Trusted(ds, d, s, text, now) || !round.trusted(ds, d, s, text, now) {
					t.Fatalf("%v is not Trusted by %v at %d", s, d, now)
				}
			}
			for _, other := range otherDs(made) {
				askIsNotTrusted(t, "another ds", other, d, s, text, 1)
			}
		}
		for _, secret := range []int64{1, 2, 3, 4, 5, 6, 7, 8, 9, 10, 100, 1274, 2546, 2547, 2548} {
			s := mustSeal(t, secret, text, 20)
			if got := impl.Trusted(ds, d, s, text, 1); got != slices.Contains(made.secrets, secret) {
				t.Fatalf("%v by %d is Trusted %v by %v", s, secret, got, d)
			}
		}
	}
}

func TestPromise9EachKeyAndNoOther(t *testing.T) {
	t.Parallel()
	round := newSignRound(t)
	d := round.deed("zone", round.keys(5, 700, 1274, 2548), 1274, 1000000)
	ds := impl.DsOf(d)
	for secret := int64(1); secret <= 2548; secret++ {
		want := secret == 5 || secret == 700 || secret == 1274 || secret == 2548
		if got := impl.Trusted(ds, d, round.seal(secret, "hi", 1000000), "hi", 999999); got != want {
			t.Fatalf("by %d: Trusted %v", secret, got)
		}
	}
}

// Promise 9: another text is Trusted just where the Seal Holds of it.
func TestPromise9TrustedOfNoOtherText(t *testing.T) {
	t.Parallel()
	round, count := newSignRound(t), map[bool]int{}
	d := round.deed("zone", round.keys(5, 9), 5, 20)
	ds, s := dsByPrint(d), round.seal(9, "one", 20)
	for n := range 12000 {
		count[askTrusted(t, round, ds, d, s, fmt.Sprint("other ", n), 19)]++
	}
	if count[true] == 0 || count[false] == 0 {
		t.Error(count)
	}
}

// A Seal and a Deed that end at different times, asked before both, between and behind both.
func TestPromise9TrustedInTime(t *testing.T) {
	t.Parallel()
	round := newSignRound(t)
	for _, deedUntil := range []int64{0, 1, 10, 20, 30, 999999, 1000000} {
		d := round.deed("zone", round.keys(5, 9), 9, deedUntil)
		for _, sealUntil := range []int64{0, 1, 10, 20, 30, 999999, 1000000} {
			for _, secret := range []int64{5, 9} {
				s := round.seal(secret, "hi", sealUntil)
				for _, now := range []int64{0, 1, 9, 10, 11, 19, 20, 21, 29, 30, 31, 999998, 999999, 1000000} {
					want := now < deedUntil && now < sealUntil
					if got := impl.Trusted(impl.DsOf(d), d, s, "hi", now); got != want {
						t.Fatalf("Deed until %d, Seal until %d: at %d Trusted %v", deedUntil, sealUntil, now, got)
					}
				}
				for _, now := range noTimes {
					askIsNotTrusted(t, "no time", impl.DsOf(d), d, s, "hi", now)
				}
			}
		}
	}
}

// Deeds that are wrong in one thing alone, each sealed as it stands.
func TestTrustedByNoDeed(t *testing.T) {
	round := newSignRound(t)
	s := round.seal(5, "hi", 20)
	ask := func(what string, d impl.Deed) {
		t.Helper()
		for _, ds := range []int64{dsByPrint(d), impl.DsOf(d), -1, 0} {
			askIsNotTrusted(t, what, ds, d, s, "hi", 1)
		}
	}
	// asKeysText is sealed where KeysText says nothing, though there are Keys.
	asKeysText := func(d impl.Deed) impl.Deed {
		d.Seal = round.seal(5, d.Zone+" "+impl.KeysText(d.Keys), 20)
		return d
	}
	for _, zone := range noNames() {
		ask("no name", round.deed(zone, round.keys(5, 9), 5, 20))
	}
	for _, n := range []int{0, 5, 6, 40} {
		d := round.deed("zone", slices.Repeat(round.keys(5), n), 5, 20)
		ask(fmt.Sprint(n, " Keys"), d)
		ask(fmt.Sprint(n, " Keys by KeysText"), asKeysText(d))
	}
	five := round.deed("zone", round.keys(5, 6, 7, 8, 9), 5, 20)
	ask("5 Keys", five)
	ask("5 Keys by KeysText", asKeysText(five))
	ask("none at all", impl.Deed{})
	for _, bad := range noPoints() {
		for _, at := range []int{0, 1, 2} {
			d := round.deed("zone", slices.Insert(round.keys(5, 9), at, bad), 5, 20)
			ask("a Key that is no Point", d)
			ask("a Key that is no Point by KeysText", asKeysText(d))
			d = round.deed("zone", slices.Insert(round.keys(5, 9), at, bad), 5, 20)
			d.Seal.Key = bad
			ask("sealed by what is no Point", d)
		}
	}
}

func TestTrustedByADeedOfAnother(t *testing.T) {
	round := newSignRound(t)
	s := round.seal(5, "hi", 20)
	for _, keys := range [][]impl.Point{round.keys(5), round.keys(5, 9), round.keys(9, 5, 6, 7)} {
		d := round.deed("zone", keys, 100, 20)
		if !impl.Holds(d.Seal, "zone "+impl.KeysText(keys), 1) {
			t.Fatalf("the test's own %v", d)
		}
		askIsNotTrusted(t, "sealed by a key that is not one of them", impl.DsOf(d), d, s, "hi", 1)
		askIsNotTrusted(t, "that key's own Seal", impl.DsOf(d), d, round.seal(100, "hi", 20), "hi", 1)
		d.Seal.Key = keys[0]
		askIsNotTrusted(t, "as if sealed by one of them", impl.DsOf(d), d, s, "hi", 1)
	}
}

// What was sealed is what is trusted: other Keys, another order, another Zone, another Until are not.
func TestTrustedByAChangedDeed(t *testing.T) {
	round := newSignRound(t)
	s, keys := round.seal(5, "hi", 20), round.keys(5, 9, 1, 2548)
	right := round.deed("zone", keys, 5, 20)
	if !impl.Trusted(impl.DsOf(right), right, s, "hi", 1) {
		t.Fatalf("%v is not right", right)
	}
	changed := map[string]impl.Deed{}
	change := func(what, zone string, until int64, secrets ...int64) {
		d := impl.Deed{Zone: zone, Keys: round.keys(secrets...), Seal: right.Seal}
		d.Seal.Until = until
		changed[what] = d
	}
	change("the first two in another order", "zone", 20, 9, 5, 1, 2548)
	change("the last two in another order", "zone", 20, 5, 9, 2548, 1)
	change("backwards", "zone", 20, 2548, 1, 9, 5)
	change("one less", "zone", 20, 5, 9, 1)
	change("itself alone", "zone", 20, 5)
	change("another one at the end", "zone", 20, 5, 9, 1, 2547)
	change("one twice", "zone", 20, 5, 9, 1, 5)
	change("another zone", "zones", 20, 5, 9, 1, 2548)
	change("the zone above", "", 20, 5, 9, 1, 2548)
	change("a zone below", "a.zone", 20, 5, 9, 1, 2548)
	change("a later end", "zone", 21, 5, 9, 1, 2548)
	change("an earlier end", "zone", 19, 5, 9, 1, 2548)
	change("the last end", "zone", 1000000, 5, 9, 1, 2548)
	for what, d := range changed {
		// Where this fails, the test's own inputs have one Challenge by chance.
		if round.trusted(dsByPrint(d), d, s, "hi", 1) {
			t.Fatalf("%s: the test's own %v", what, d)
		}
		askIsNotTrusted(t, what, impl.DsOf(d), d, s, "hi", 1)
		askIsNotTrusted(t, what, impl.DsOf(right), d, s, "hi", 1)
	}
}

// The Seal of the text, wrong in one thing alone.
func TestTrustedOfNoSeal(t *testing.T) {
	round := newSignRound(t)
	d := round.deed("zone", round.keys(5, 9), 9, 30)
	ds, right := impl.DsOf(d), round.seal(5, "hi", 20)
	for what, s := range map[string]impl.Seal{
		"none":                       {},
		"a key that is not one":      round.seal(6, "hi", 20),
		"another one's name":         {Key: d.Keys[1], Until: 20, Sig: right.Sig},
		"another end":                {Key: right.Key, Until: 21, Sig: right.Sig},
		"the Sig of another text":    {Key: right.Key, Until: 20, Sig: round.seal(5, "ho", 20).Sig},
		"the Sig of the Deed":        {Key: d.Seal.Key, Until: 30, Sig: d.Seal.Sig},
		"the zero Sig":               {Key: right.Key, Until: 20},
		"T 1 more":                   {Key: right.Key, Until: 20, Sig: impl.Sig{R: right.Sig.R, T: (right.Sig.T + 1) % 2549}},
		"T a round more":             {Key: right.Key, Until: 20, Sig: impl.Sig{R: right.Sig.R, T: right.Sig.T + 2549}},
		"T a round less":             {Key: right.Key, Until: 20, Sig: impl.Sig{R: right.Sig.R, T: right.Sig.T - 2549}},
		"the Key a round more":       {Key: impl.Point{X: right.Key.X + impl.P, Y: right.Key.Y}, Until: 20, Sig: right.Sig},
		"the Key of nobody":          {Key: impl.Nought(), Until: 20, Sig: impl.Sig{R: impl.Nought(), T: 0}},
		"over":                       round.seal(5, "hi", 1),
		"over from the beginning on": round.seal(5, "hi", 0),
	} {
		if round.trusted(ds, d, s, "hi", 1) {
			t.Fatalf("%s: the test's own %v", what, s)
		}
		askIsNotTrusted(t, what, ds, d, s, "hi", 1)
	}
	for _, bad := range noPoints() {
		askIsNotTrusted(t, "a Key that is no Point", ds, d, impl.Seal{Key: bad, Until: 20, Sig: right.Sig}, "hi", 1)
		askIsNotTrusted(t, "an R that is no Point", ds, d, impl.Seal{Key: right.Key, Until: 20, Sig: impl.Sig{R: bad, T: right.Sig.T}}, "hi", 1)
	}
	if !impl.Trusted(ds, d, right, "hi", 1) {
		t.Error("the right one is not Trusted")
	}
	if text := "zone " + impl.KeysText(d.Keys); !impl.Trusted(ds, d, d.Seal, text, 29) || impl.Trusted(ds, d, d.Seal, text, 30) {
		t.Error("the Deed's own Seal of its own text")
	}
}

// Nought and Points out of Base's round are Points, too; who has one of them as a Key trusts it.
func TestTrustedByAnyPoints(t *testing.T) {
	round := newSignRound(t)
	nought, out := impl.Nought(), impl.Point{X: 1, Y: 0}
	anyone := impl.Seal{Key: nought, Until: 20, Sig: impl.Sig{R: round.timesBase(77), T: 77}}
	for _, keys := range [][]impl.Point{{nought}, {out, nought}, append(round.keys(5), nought, out), append([]impl.Point{nought, out}, round.keys(5)...)} {
		d := impl.Deed{Zone: "zone", Keys: keys, Seal: anyone}
		if !askTrusted(t, round, dsByPrint(d), d, anyone, "whatever", 19) || askTrusted(t, round, dsByPrint(d), d, anyone, "whatever", 20) {
			t.Errorf("by Nought among %v", keys)
		}
		for _, text := range []string{"", "hi", "ho"} {
			askTrusted(t, round, dsByPrint(d), d, round.seal(5, text, 20), text, 19)
		}
	}
}

// A key with the same X, or the same Y, is another key: what it sealed is its own.
func TestTrustedByAKeyHalfAlike(t *testing.T) {
	round := newSignRound(t)
	key := round.timesBase(5)
	for _, alike := range []impl.Point{{X: key.X, Y: impl.P - key.Y}, {X: impl.P - key.X, Y: key.Y}} {
		own, both := round.deed("zone", []impl.Point{key}, 5, 20), round.deed("zone", []impl.Point{key, alike}, 5, 20)
		sealed := 0
		for n := range 40 {
			text := fmt.Sprint("text ", n)
			s := impl.Seal{Key: alike, Until: 20, Sig: impl.Sig{R: round.timesBase(77)}}
			s.Sig.T = round.fitting(alike, sealedByWords(20, text), s.Sig.R)
			if !askHolds(t, round, s, text) {
				continue
			}
			sealed++
			askIsNotTrusted(t, "a key half alike", impl.DsOf(own), own, s, text, 1)
			if !impl.Trusted(impl.DsOf(both), both, s, text, 1) {
				t.Fatalf("%v is not Trusted by %v", s, both)
			}
		}
		if sealed == 0 {
			t.Errorf("%v sealed nothing", alike)
		}
	}
}

// drawnDeeds are right and wrong ones of few names, keys and times, the same ones at each run.
func drawnDeeds(round signRound, ask func(ds int64, d impl.Deed, s impl.Seal, text string, now int64)) {
	state := uint32(26)
	draw := func(n int) int {
		state = state*1664525 + 1013904223
		return int(state>>8) % n
	}
	secrets, untils, nows, texts := []int64{1, 5, 9, 2548}, []int64{1, 2, 3, 1000000}, []int64{0, 1, 2, 999999}, []string{"", "hi", "a b\n"}
	for range 6000 {
		zone, few := []string{"zone", "", "a.zone"}[draw(3)], []int64{}
		for range 1 + draw(4) {
			few = append(few, secrets[draw(4)])
		}
		// Most are sealed by one of the Keys, some by any.
		sealer := func() int64 {
			if draw(8) == 0 {
				return secrets[draw(4)]
			}
			return few[draw(len(few))]
		}
		d := round.deed(zone, round.keys(few...), sealer(), untils[draw(4)])
		text, now := texts[draw(3)], nows[draw(4)]
		s := round.seal(sealer(), text, untils[draw(4)])
		ds := dsByPrint(d)
		switch draw(16) {
		case 0:
			slices.Reverse(d.Keys)
		case 1:
			d.Keys = d.Keys[1:]
		case 2:
			d.Keys = append(d.Keys, d.Keys[0])
		case 3:
			d.Zone = "azone"
		case 4:
			s.Sig.T = int64(draw(2551)) - 1
		case 5:
			d.Seal.Sig.T = int64(draw(2551)) - 1
		case 6:
			ds++
		case 7:
			s.Key = d.Keys[draw(len(d.Keys))]
		case 8:
			now = noTimes[draw(len(noTimes))]
		case 9:
			d.Keys[draw(len(d.Keys))].X++
		}
		ask(ds, d, s, text, now)
	}
}

func TestTrustedAsTheChapterSays(t *testing.T) {
	t.Parallel()
	round, count := newSignRound(t), map[bool]int{}
	drawnDeeds(round, func(ds int64, d impl.Deed, s impl.Seal, text string, now int64) {
		count[askTrusted(t, round, ds, d, s, text, now)]++
	})
	if count[true] < 600 || count[false] < 600 {
		t.Error(count)
	}
}

// deedArguments are right and wrong ones.
func deedArguments(t *testing.T, round signRound) []impl.Deed {
	list := []impl.Deed{{}, round.deed("zone", nil, 5, 20), round.deed("Zone", round.keys(5), 5, 20), round.deed("zone", round.keys(5, 6, 7, 8, 9), 5, 20), round.deed("zone", noPoints()[:4], 5, 20), round.deed("zone", noPoints(), 5, 20)}
	for _, made := range madeDeeds(t, 20) {
		list = append(list, made.deed)
		wrong := cloneDeed(made.deed)
		wrong.Keys[len(wrong.Keys)-1] = impl.Point{}
		list = append(list, wrong)
	}
	return list
}

// deedAnswer is all that chapter 9 answers of one Deed.
type deedAnswer struct {
	seal                  impl.Seal
	keys                  string
	ds                    int64
	sealOk, holds, trusts bool
}

func deedAnswers(d impl.Deed, secret int64, text string, until, now int64) (a deedAnswer) {
	a.seal, a.sealOk = impl.SealOf(secret, text, until)
	a.holds = impl.Holds(a.seal, text, now)
	a.keys = impl.KeysText(d.Keys)
	a.ds = impl.DsOf(d)
	a.trusts = impl.Trusted(a.ds, d, a.seal, text, now)
	return a
}

// Promise 21 of chapter 9: nothing is written into the Keys or the room behind them.
func TestPromise21DeedArgumentsStay(t *testing.T) {
	round := newSignRound(t)
	for i, d := range deedArguments(t, round) {
		for _, room := range []int{0, 1, 5} {
			front, all := roomyOf(d.Keys, room, impl.Point{X: -7, Y: -7})
			before := slices.Clone(all)
			given := impl.Deed{Zone: d.Zone, Keys: front, Seal: d.Seal}
			first := deedAnswers(given, 5, "hi", 20, 1)
			if !slices.Equal(all, before) || !sameDeed(given, d) {
				t.Fatalf("Deed %d with room for %d: something was written", i, room)
			}
			// What stands in the room, and how much there is of it, changes nothing.
			if got := deedAnswers(d, 5, "hi", 20, 1); got != first {
				t.Fatalf("Deed %d with room for %d: %v, without %v", i, room, first, got)
			}
		}
	}
}

// Promise 21: an argument that is written to later changes no answer, and what was asked ahead of it neither.
func TestPromise21DeedAnswersStay(t *testing.T) {
	round := newSignRound(t)
	for i, d := range deedArguments(t, round) {
		front, all := roomyOf(d.Keys, 2, impl.Point{X: -7, Y: -7})
		given := impl.Deed{Zone: d.Zone, Keys: front, Seal: d.Seal}
		text := impl.KeysText(front)
		want := strings.Clone(text)
		trusts := impl.Trusted(impl.DsOf(given), given, round.seal(5, "hi", 20), "hi", 1)
		scribbleOn(all, impl.Point{X: -9, Y: -9})
		if text != want {
			t.Fatalf("Deed %d: KeysText became %q", i, text)
		}
		if len(front) > 0 && (impl.KeysText(front) != "" || impl.Trusted(impl.DsOf(given), given, round.seal(5, "hi", 20), "hi", 1)) {
			t.Fatalf("Deed %d: what was asked ahead is answered", i)
		}
		if got := impl.Trusted(impl.DsOf(d), d, round.seal(5, "hi", 20), "hi", 1); got != trusts {
			t.Fatalf("Deed %d: Trusted %v, then %v", i, trusts, got)
		}
	}
}

// Promise 21: each argument gets the same answer again, whatever was asked between.
func TestPromise21DeedAgain(t *testing.T) {
	round, texts := newSignRound(t), deedTexts()
	deeds := deedArguments(t, round)
	secrets, times := slices.Concat(edgeSecrets, noSecrets), slices.Concat(edgeTimes, noTimes)
	answer := func(i int) deedAnswer {
		return deedAnswers(deeds[i%len(deeds)], secrets[i%len(secrets)], texts[i%len(texts)], times[i*7%len(times)], times[i*3%len(times)])
	}
	first := []deedAnswer{}
	for i := range 600 {
		first = append(first, answer(i))
	}
	for i, want := range slices.Backward(first) {
		if got := answer(i); got != want {
			t.Fatalf("at %d: %v, then %v", i, want, got)
		}
		if !want.sealOk && (want.seal != impl.Seal{} || want.holds || want.trusts) {
			t.Fatalf("at %d: no Seal, but %v", i, want)
		}
	}
}
