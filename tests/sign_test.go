package tests

import (
	"fmt"
	"math"
	"strings"
	"testing"

	"loop.example/g00307/impl"
)

// noSecrets are wrong on either side, the nearest, the farthest, and ones that would be right modulo Order.
var noSecrets = []int64{math.MinInt64, math.MinInt64 + 1, -impl.P, -impl.Order - 1, -impl.Order, -2548, -2, -1, 0, 2549, 2550, 2 * impl.Order, 2*impl.Order + 1, maxPower, maxPower + 1, math.MaxInt64 - 1, math.MaxInt64}

// edgeSecrets are both ends and a few between.
var edgeSecrets = []int64{1, 2, 3, 5, 7, 8, 100, 1274, 1275, 2547, 2548}

// wrongT are out of a Sig's range, whatever else it has.
var wrongT = []int64{math.MinInt64, math.MinInt64 + 1, -impl.Order, -2, -1, 2549, 2550, 2 * impl.Order, maxPower, maxPower + 1, math.MaxInt64}

// signTexts are of no byte, of bytes 0, blank, above 127 (no UTF-8 among them), like numbers, and long.
func signTexts() []string {
	return []string{"", "hi", "a", "b", "ab", "ba", " ", "  ", "\n", "\x00", "\x00\x00", "a\x00", "\x00a", "\x7f", "\x80", "\xff", "\xff\xff\xff", "\xc3\xa9", "é", "\u2603 snow", "0", "1", "-1", "5 hi", "17", strings.Repeat("x", 255), strings.Repeat("\x00", 1000), strings.Repeat("\xff", 1000), strings.Repeat("long ", 2000)}
}

// hashByPlaces gives each byte its own power of the factor, from the last one on: no state goes along.
func hashByPlaces(text string) int64 {
	const size, factor = 2147483647, 1000003
	bytes := append([]byte(text), 0, 0, 0, 0, 0)
	sum, power := int64(0), int64(1)
	for i := len(bytes) - 1; i >= 0; i-- {
		sum = (sum + (int64(bytes[i])+1)*power) % size
		power = power * factor % size
	}
	return (sum + 17*power) % size
}

func challengeByText(r, key impl.Point, text string) int64 {
	return hashByPlaces(fmt.Sprintf("%d %d %d %d %s", r.X, r.Y, key.X, key.Y, text)) % 2549
}

// A signRound tells Points by where they stand in turn, so that sums of Points are sums of numbers.
type signRound struct {
	list  []impl.Point
	place map[impl.Point]int64
	base  int64
}

func newSignRound(t *testing.T) signRound {
	t.Helper()
	round := signRound{list: pointsInTurn(t), place: map[impl.Point]int64{}}
	for i, p := range round.list {
		round.place[p] = int64(i)
	}
	round.base = round.place[impl.Point{X: 2791, Y: 6375}]
	return round
}

func (round signRound) timesBase(n int64) impl.Point {
	return round.list[n*round.base%allPoints]
}

// valid is the chapter's own question; key and R are Points, T is in range.
func (round signRound) valid(key impl.Point, text string, s impl.Sig) bool {
	right := round.place[s.R] + challengeByText(s.R, key, text)*round.place[key]
	return s.T*round.base%allPoints == right%allPoints
}

func (round signRound) signed(secret int64, text string) impl.Sig {
	k := hashByPlaces(fmt.Sprintf("%d %s", secret, text))%2548 + 1
	r, key := round.timesBase(k), round.timesBase(secret)
	return impl.Sig{R: r, T: (k + challengeByText(r, key, text)*secret) % 2549}
}

// mustSign is Signed where the secret is one.
func mustSign(t *testing.T, secret int64, text string) (impl.Point, impl.Sig) {
	t.Helper()
	key, keyOk := impl.KeyOf(secret)
	sig, sigOk := impl.Signed(secret, text)
	if !keyOk || !sigOk {
		t.Fatalf("secret %d of %.20q: %v %v, %v %v", secret, text, key, keyOk, sig, sigOk)
	}
	return key, sig
}

func TestHashStepByStep(t *testing.T) {
	for _, text := range signTexts() {
		h := uint64(17)
		for _, b := range append([]byte(text), make([]byte, 5)...) {
			h = (h*1000003 + uint64(b) + 1) % 2147483647
		}
		if got := impl.Hash(text); got != int64(h) || got != hashByPlaces(text) {
			t.Errorf("Hash(%.20q) = %d, want %d", text, got, h)
		}
	}
}

func TestHashKnown(t *testing.T) {
	if got := impl.Hash("hi"); got != 1242454296 {
		t.Errorf("Hash(hi) = %d", got)
	}
	// Of no byte: 17, and just the 5 bytes 0 behind it.
	if got := impl.Hash(""); got != hashByPlaces("") || got == 17 || got == impl.Hash("\x00") {
		t.Errorf("Hash of no byte = %d", got)
	}
	if impl.Hash("é") != impl.Hash("\xc3\xa9") || impl.Hash("é") == impl.Hash("\xe9") {
		t.Error("a text is not taken as bytes")
	}
}

func TestHashOfEachByte(t *testing.T) {
	seen := map[int64]string{}
	for b := range 256 {
		for _, text := range []string{string([]byte{byte(b)}), string([]byte{byte(b), 0}), string([]byte{'a', byte(b)})} {
			got := impl.Hash(text)
			if got != hashByPlaces(text) {
				t.Fatalf("Hash(%q) = %d, want %d", text, got, hashByPlaces(text))
			}
			if other, ok := seen[got]; ok && other != text {
				t.Fatalf("Hash of %q and of %q are both %d", text, other, got)
			}
			seen[got] = text
		}
	}
}

func TestHashOfLongTexts(t *testing.T) {
	for _, part := range []string{"\x00", "z", "\xff", "who is where, and who says so\n"} {
		for _, n := range []int{100, 20000, 1 << 20} {
			text := strings.Repeat(part, n)
			if got := impl.Hash(text); got != hashByPlaces(text) || got < 0 || got >= 2147483647 {
				t.Errorf("Hash of %d times %q = %d", n, part, got)
			}
		}
	}
}

func TestKeyOf(t *testing.T) {
	round := newSignRound(t)
	sum := impl.Base()
	for secret := int64(1); secret <= 2548; secret++ {
		got, ok := impl.KeyOf(secret)
		if !ok || got != sum || got != round.timesBase(secret) {
			t.Fatalf("KeyOf(%d) = %v %v, want %v", secret, got, ok, sum)
		}
		sum, _ = impl.Added(sum, impl.Base())
	}
	for secret := int64(-3000); secret <= 6000; secret++ {
		if _, ok := impl.KeyOf(secret); ok != (secret >= 1 && secret <= 2548) {
			t.Fatalf("KeyOf(%d) says %v", secret, ok)
		}
	}
}

func TestNoSecret(t *testing.T) {
	for _, secret := range noSecrets {
		if got, ok := impl.KeyOf(secret); ok || got != (impl.Point{}) {
			t.Errorf("KeyOf(%d) = %v %v", secret, got, ok)
		}
		for _, text := range signTexts() {
			if got, ok := impl.Signed(secret, text); ok || got != (impl.Sig{}) {
				t.Errorf("Signed(%d, %.20q) = %v %v", secret, text, got, ok)
			}
		}
	}
}

func TestChallenge(t *testing.T) {
	list := pointsInTurn(t)
	texts := signTexts()
	for i, r := range list {
		// (i*i + 11) mixes Points of Base's round and others on both sides.
		for _, key := range []impl.Point{r, list[0], list[(i*i+11)%allPoints], impl.Base()} {
			text := texts[i%len(texts)]
			if got, want := impl.Challenge(r, key, text), challengeByText(r, key, text); got != want {
				t.Fatalf("Challenge(%v, %v, %.20q) = %d, want %d", r, key, text, got, want)
			}
		}
	}
}

func TestChallengeKnown(t *testing.T) {
	r, key := impl.Point{X: 5320, Y: 5849}, impl.Point{X: 7405, Y: 8341}
	if got := impl.Challenge(r, key, "hi"); got != 2165 || got != impl.Hash("5320 5849 7405 8341 hi")%2549 {
		t.Errorf("Challenge = %d", got)
	}
	if got := impl.Challenge(impl.Nought(), impl.Nought(), ""); got != impl.Hash("0 1 0 1 ")%2549 {
		t.Errorf("Challenge of Nought, twice = %d", got)
	}
}

func TestChallengeRefusesWhatIsNoPoint(t *testing.T) {
	bad := noPoints()
	others := append([]impl.Point{impl.Nought(), impl.Base(), {X: 1, Y: 0}, {X: 4995, Y: 5918}}, bad...)
	for _, p := range bad {
		for _, q := range others {
			for _, text := range []string{"", "hi", "\xff"} {
				if got := impl.Challenge(p, q, text); got != -1 {
					t.Errorf("Challenge(%v, %v, %q) = %d", p, q, text, got)
				}
				if got := impl.Challenge(q, p, text); got != -1 {
					t.Errorf("Challenge(%v, %v, %q) = %d", q, p, text, got)
				}
			}
		}
	}
}

func TestSignedKnown(t *testing.T) {
	key, sig := mustSign(t, 5, "hi")
	if key != (impl.Point{X: 7405, Y: 8341}) || sig != (impl.Sig{R: impl.Point{X: 5320, Y: 5849}, T: 560}) || !impl.Valid(key, "hi", sig) {
		t.Fatal(key, sig)
	}
}

// Promise 3: of each secret and many texts.
func TestPromise3SignedIsValid(t *testing.T) {
	round, texts := newSignRound(t), signTexts()
	for secret := int64(1); secret <= 2548; secret++ {
		n := int(secret)
		for _, text := range []string{fmt.Sprint("text ", secret), texts[n%len(texts)], texts[(7*n+3)%len(texts)]} {
			key, sig := mustSign(t, secret, text)
			if want := round.signed(secret, text); sig != want {
				t.Fatalf("Signed(%d, %.20q) = %v, want %v", secret, text, sig, want)
			}
			if sig.R == impl.Nought() || sig.T < 0 || sig.T > 2548 || !impl.Valid(key, text, sig) {
				t.Fatalf("Signed(%d, %.20q) = %v is not Valid", secret, text, sig)
			}
		}
	}
	for _, secret := range edgeSecrets {
		for _, text := range texts {
			if key, sig := mustSign(t, secret, text); sig != round.signed(secret, text) || !impl.Valid(key, text, sig) {
				t.Fatalf("Signed(%d, %.20q) = %v", secret, text, sig)
			}
		}
	}
}

// Promise 3: all T from 0 to 2548, and those out of range that are the same modulo Order.
func TestPromise3NoOtherT(t *testing.T) {
	texts, secrets := signTexts(), append([]int64{}, edgeSecrets...)
	for secret := int64(10); secret <= 2548; secret += 31 {
		secrets = append(secrets, secret)
	}
	for i, secret := range secrets {
		for _, text := range []string{texts[i%len(texts)], fmt.Sprint("text ", i)} {
			key, sig := mustSign(t, secret, text)
			right := sig.T
			for sig.T = -2; sig.T <= 2550; sig.T++ {
				if impl.Valid(key, text, sig) != (sig.T == right) {
					t.Fatalf("secret %d, %.20q, %v: T is %d", secret, text, sig, right)
				}
			}
			for _, sig.T = range append([]int64{right - impl.Order, right + impl.Order, right + 4*impl.Order}, wrongT...) {
				if impl.Valid(key, text, sig) {
					t.Fatalf("secret %d, %.20q, %v: T is %d", secret, text, sig, right)
				}
			}
		}
	}
}

func TestPromise3NoOtherTOfAnySecret(t *testing.T) {
	for secret := int64(1); secret <= 2548; secret++ {
		key, sig := mustSign(t, secret, "what was said")
		right := sig.T
		for _, sig.T = range []int64{0, 1, 2548, right - 1, right + 1, 2549 - right, right ^ 1, right * 7 % 2549, right - 2549, right + 2549, -1, 2549} {
			if sig.T != right && impl.Valid(key, "what was said", sig) {
				t.Fatalf("secret %d, %v: T is %d", secret, sig, right)
			}
		}
	}
}

// Both ends of T are met by some Signed ones, and are Valid.
func TestSignedMeetsBothEndsOfT(t *testing.T) {
	for _, end := range []int64{0, 2548} {
		found := false
		for n := 0; n < 40 && !found; n++ {
			text := fmt.Sprint("end ", n)
			for secret := int64(1); secret <= 2548 && !found; secret++ {
				key, sig := mustSign(t, secret, text)
				if found = sig.T == end; found && !impl.Valid(key, text, sig) {
					t.Errorf("Signed(%d, %q) = %v is not Valid", secret, text, sig)
				}
			}
		}
		if !found {
			t.Errorf("no T is %d", end)
		}
	}
}

// Another text is Valid just where its Challenge is the same.
func TestPromise3NoOtherText(t *testing.T) {
	same, other := 0, 0
	for _, secret := range edgeSecrets {
		key, sig := mustSign(t, secret, "one")
		challenge := impl.Challenge(sig.R, key, "one")
		for n := range 4000 {
			text := fmt.Sprint("other ", n)
			want := impl.Challenge(sig.R, key, text) == challenge
			if impl.Valid(key, text, sig) != want {
				t.Fatalf("secret %d: Valid of %q is not %v", secret, text, want)
			}
			if want {
				same++
			} else {
				other++
			}
		}
	}
	if same == 0 || other == 0 {
		t.Errorf("%d with the same Challenge, %d with another", same, other)
	}
}

// By another key, Challenge times it would have to be just what Challenge times the right one is.
func TestPromise3NoOtherKey(t *testing.T) {
	round := newSignRound(t)
	for _, secret := range []int64{1, 5, 1274, 2548} {
		for _, text := range []string{"", "hi", "\x00\xff"} {
			key, sig := mustSign(t, secret, text)
			part := challengeByText(sig.R, key, text) * secret % impl.Order
			for other := int64(1); other <= 2548; other++ {
				otherKey := round.timesBase(other)
				want := challengeByText(sig.R, otherKey, text)*other%impl.Order == part
				if other == secret && !want {
					t.Fatalf("secret %d of %q", secret, text)
				}
				if got := impl.Valid(otherKey, text, sig); got != want {
					t.Fatalf("secret %d, %q: Valid by KeyOf %d is %v", secret, text, other, got)
				}
			}
		}
	}
}

// Sigs that nobody Signed, of any two Points: Nought, those of Base's round and those out of it.
func TestValidOfAnyPoints(t *testing.T) {
	round := newSignRound(t)
	places := []int64{0, 1, 4, 2549, 5098, 7647, 10192, 10195, round.base, 3 * round.base % allPoints, 2 * round.base, 1234, 4321}
	count := map[bool]int{}
	for _, i := range places {
		for _, j := range places {
			key, r := round.list[i%allPoints], round.list[j%allPoints]
			for n := range 12 {
				text := fmt.Sprint("any ", n)
				for _, T := range []int64{0, 1, 2, 3, 1274, 2548, round.fitting(key, text, r)} {
					s := impl.Sig{R: r, T: T}
					want := round.valid(key, text, s)
					if got := impl.Valid(key, text, s); got != want {
						t.Fatalf("Valid(%v, %q, %v) is %v", key, text, s, got)
					}
					count[want]++
				}
			}
		}
	}
	if count[true] < 100 || count[false] < 100 {
		t.Error(count)
	}
}

// fitting is the T with which the Sig would be Valid, if there is one (0 else).
func (round signRound) fitting(key impl.Point, text string, r impl.Point) int64 {
	for T := range int64(2549) {
		if round.valid(key, text, impl.Sig{R: r, T: T}) {
			return T
		}
	}
	return 0
}

// Nought as the key is nobody's, but it is a Point: R alone decides.
func TestValidOfNought(t *testing.T) {
	round := newSignRound(t)
	nought := impl.Nought()
	for T := int64(0); T <= 2548; T++ {
		s := impl.Sig{R: round.timesBase(T), T: T}
		if !impl.Valid(nought, "any", s) {
			t.Fatalf("Valid by Nought of %v is false", s)
		}
		if s.T = (T + 1) % 2549; impl.Valid(nought, "any", s) {
			t.Fatalf("Valid by Nought of %v", s)
		}
	}
	for _, secret := range edgeSecrets {
		key := round.timesBase(secret)
		s := impl.Sig{R: nought, T: challengeByText(nought, key, "any") * secret % impl.Order}
		if !impl.Valid(key, "any", s) {
			t.Errorf("Valid(%v, any, %v) is false", key, s)
		}
		if s.T = (s.T + 1) % impl.Order; impl.Valid(key, "any", s) {
			t.Errorf("Valid(%v, any, %v)", key, s)
		}
	}
}

// An R out of Base's round fits with no T, when the key is of it.
func TestValidOutOfBasesRound(t *testing.T) {
	key, sig := mustSign(t, 5, "hi")
	for _, out := range []impl.Point{{X: 1, Y: 0}, {X: 10006, Y: 0}, {X: 0, Y: 10006}} {
		moved, ok := impl.Added(sig.R, out)
		if !ok {
			t.Fatal(out)
		}
		for T := int64(0); T <= 2548; T++ {
			if impl.Valid(key, "hi", impl.Sig{R: out, T: T}) || impl.Valid(key, "hi", impl.Sig{R: moved, T: T}) {
				t.Fatalf("R %v or %v with T %d", out, moved, T)
			}
		}
	}
}

func TestValidRefusesWhatIsNoPoint(t *testing.T) {
	key, sig := mustSign(t, 5, "hi")
	good := []impl.Point{impl.Nought(), impl.Base(), key, sig.R, {X: 1, Y: 0}}
	bad := noPoints()
	for _, p := range []impl.Point{key, sig.R} {
		for _, far := range []int64{-impl.P, impl.P} {
			bad = append(bad, impl.Point{X: p.X + far, Y: p.Y}, impl.Point{X: p.X, Y: p.Y + far}, impl.Point{X: p.X + far, Y: p.Y + far})
		}
	}
	for _, p := range bad {
		for _, q := range append(append([]impl.Point{}, good...), bad...) {
			for _, T := range []int64{-1, 0, 1, sig.T, 2548, 2549} {
				if impl.Valid(p, "hi", impl.Sig{R: q, T: T}) || impl.Valid(q, "hi", impl.Sig{R: p, T: T}) {
					t.Fatalf("Valid with %v and %v, T %d", p, q, T)
				}
			}
		}
	}
	if impl.Valid(impl.Point{}, "", impl.Sig{}) || impl.Valid(key, "hi", impl.Sig{}) {
		t.Error("the zero Sig is Valid")
	}
}

// T 0 and 2548 are in range, -1 and 2549 are not, even where R would fit.
func TestValidAtTheEndsOfT(t *testing.T) {
	round := newSignRound(t)
	for _, T := range []int64{0, 1, 2547, 2548} {
		if !impl.Valid(impl.Nought(), "end", impl.Sig{R: round.timesBase(T), T: T}) {
			t.Errorf("T %d", T)
		}
	}
	for _, T := range wrongT {
		r := round.timesBase((T%impl.Order + impl.Order) % impl.Order)
		if impl.Valid(impl.Nought(), "end", impl.Sig{R: r, T: T}) {
			t.Errorf("T %d", T)
		}
	}
}

// Promise 21 of chapter 3: each argument gets the same answer again, whatever was asked between, and one of the right form.
func TestPromise21Sign(t *testing.T) {
	points := append([]impl.Point{impl.Nought(), impl.Base(), {X: 1, Y: 0}, {X: 5320, Y: 5849}}, noPoints()...)
	numbers := append(append(append([]int64{}, edgeSecrets...), noSecrets...), wrongT...)
	texts := signTexts()
	for i, p := range points {
		for j, q := range points {
			n, text := numbers[(i+j)%len(numbers)], texts[(i*3+j)%len(texts)]
			first, again := signAnswers(p, q, n, text), signAnswers(p, q, n, text)
			if first != again {
				t.Fatalf("at %v, %v, %d and %.20q: %v, then %v", p, q, n, text, first, again)
			}
			secret := n >= 1 && n <= 2548
			if first.keyOk != secret || first.sigOk != secret || !secret && (first.key != impl.Point{} || first.sig != impl.Sig{}) {
				t.Fatalf("at %d: %v", n, first)
			}
			both := impl.PointOk(p) && impl.PointOk(q)
			if both != (first.challenge >= 0) || first.challenge < -1 || first.challenge > 2548 || !both && first.valid {
				t.Fatalf("at %v and %v: %v", p, q, first)
			}
		}
	}
}

type signAnswer struct {
	hash, challenge     int64
	key                 impl.Point
	sig                 impl.Sig
	keyOk, sigOk, valid bool
}

func signAnswers(p, q impl.Point, n int64, text string) (a signAnswer) {
	a.hash = impl.Hash(text)
	a.challenge = impl.Challenge(p, q, text)
	a.key, a.keyOk = impl.KeyOf(n)
	a.sig, a.sigOk = impl.Signed(n, text)
	a.valid = impl.Valid(p, text, impl.Sig{R: q, T: n})
	return a
}
