package tests

import (
	"math"
	"testing"

	"loop.example/g00307/impl"
)

const allPoints = 4 * impl.Order

// noPoints are wrong in X, in Y or in both: no Elements, ones that would be right modulo P, and Elements off the curve.
func noPoints() []impl.Point {
	list := []impl.Point{{}, {X: 1, Y: 1}, {X: 2, Y: 2}, {X: 6375, Y: 2791 + 1}, {X: 2791, Y: 6376}, {X: 2792, Y: 6375}, {X: 10006, Y: 10006}, {X: 0, Y: 2}, {X: 2, Y: 0}}
	for _, bad := range []int64{math.MinInt64, math.MinInt64 + 1, -impl.P, -1, impl.P, impl.P + 1, math.MaxInt64} {
		for _, good := range []int64{0, 1, 2791, 6375, 10006} {
			list = append(list, impl.Point{X: bad, Y: good}, impl.Point{X: good, Y: bad})
		}
		list = append(list, impl.Point{X: bad, Y: bad})
	}
	for _, p := range []impl.Point{{X: 0, Y: 1}, {X: 2791, Y: 6375}, {X: 1, Y: 0}, {X: 0, Y: 10006}} {
		for _, round := range []int64{-impl.P, impl.P, impl.P << 40} {
			list = append(list, impl.Point{X: p.X + round, Y: p.Y}, impl.Point{X: p.X, Y: p.Y + round})
		}
	}
	return list
}

// curveDivided is a by b modulo P, by Euclid's way; b is not 0.
func curveDivided(a, b int64) int64 {
	r0, r1, t0, t1 := int64(impl.P), b, int64(0), int64(1)
	for r1 != 0 {
		q := r0 / r1
		r0, r1 = r1, r0-q*r1
		t0, t1 = t1, t0-q*t1
	}
	return ((a*t0)%impl.P + impl.P) % impl.P
}

// curveAdded is the chapter's own law, in whole numbers that are brought back once.
func curveAdded(a, b impl.Point) impl.Point {
	round := func(n int64) int64 { return (n%impl.P + impl.P) % impl.P }
	k := round(23 * round(a.X*a.Y) * round(b.X*b.Y))
	return impl.Point{
		X: curveDivided(round(a.X*b.Y+a.Y*b.X), round(1+k)),
		Y: curveDivided(round(a.Y*b.Y-a.X*b.X), round(1-k)),
	}
}

// pointsInTurn is one Point, 0 times, once, twice and so on, till it comes back; a Point is chosen that comes to all of them,
// so that where a Point stands there tells all sums of it.
func pointsInTurn(t *testing.T) []impl.Point {
	t.Helper()
	first := impl.Point{X: 0, Y: 1}
	// (1, 0) comes back after 4, Base after 2549: their sum goes through all.
	step := curveAdded(impl.Point{X: 1, Y: 0}, impl.Point{X: 2791, Y: 6375})
	list := []impl.Point{first}
	for p := step; p != first && len(list) <= allPoints; p = curveAdded(p, step) {
		list = append(list, p)
	}
	if len(list) != allPoints {
		t.Fatalf("%d Points in turn", len(list))
	}
	return list
}

func TestCurveConstants(t *testing.T) {
	if impl.Order != 2549 || impl.Nought() != (impl.Point{X: 0, Y: 1}) || impl.Base() != (impl.Point{X: 2791, Y: 6375}) {
		t.Fatal(impl.Order, impl.Nought(), impl.Base())
	}
	for d := 2; d < impl.Order; d++ {
		if impl.Order%d == 0 {
			t.Fatalf("Order by %d", d)
		}
	}
}

// All pairs of Elements are asked, so that none is a Point but those that are counted.
func TestPointOkCounts(t *testing.T) {
	count := 0
	for x := int64(0); x < impl.P; x++ {
		for y := int64(0); y < impl.P; y++ {
			xx, yy := x*x, y*y%impl.P
			p, want := impl.Point{X: x, Y: y}, (1+23*(xx%impl.P)*yy-xx-yy)%impl.P == 0
			if impl.PointOk(p) != want {
				t.Fatalf("PointOk(%v) is not %v", p, want)
			}
			if want {
				count++
			}
		}
	}
	if count != 10196 || impl.Order*4 != 10196 {
		t.Fatalf("there are %d Points", count)
	}
}

func TestPointOkRefuses(t *testing.T) {
	for _, p := range noPoints() {
		if impl.PointOk(p) {
			t.Errorf("PointOk(%v)", p)
		}
	}
	for _, p := range []impl.Point{impl.Nought(), impl.Base(), {X: 1, Y: 0}, {X: 10006, Y: 0}, {X: 0, Y: 10006}} {
		if !impl.PointOk(p) {
			t.Errorf("PointOk(%v) is false", p)
		}
	}
}

// Promise 2: each Point is Added to itself, its Opposite, Nought, Base and others, in either order.
func TestPromise2SumsArePoints(t *testing.T) {
	list := pointsInTurn(t)
	for i, a := range list {
		others := []int{i, (allPoints - i) % allPoints, 0, 1, 2, 2549, 5098, 7647, 10195, (i + 1) % allPoints, i * 37 % allPoints, (i*i + 11) % allPoints}
		for _, j := range others {
			b, want := list[j], list[(i+j)%allPoints]
			got, ok := impl.Added(a, b)
			back, backOk := impl.Added(b, a)
			if !ok || !backOk || got != want || back != want || !impl.PointOk(got) {
				t.Fatalf("Added(%v, %v) = %v %v, %v %v, want %v", a, b, got, ok, back, backOk, want)
			}
		}
		if got, ok := impl.Added(a, impl.Base()); !ok || got != curveAdded(a, impl.Base()) || !impl.PointOk(got) {
			t.Fatalf("Added(%v, Base) = %v %v", a, got, ok)
		}
	}
}

func TestPromise2AnyOrder(t *testing.T) {
	list := pointsInTurn(t)
	for i := 0; i < allPoints; i += 401 {
		for j := 0; j < allPoints; j += 307 {
			for k := 0; k < allPoints; k += 503 {
				ab, _ := impl.Added(list[i], list[j])
				bc, _ := impl.Added(list[j], list[k])
				left, leftOk := impl.Added(ab, list[k])
				right, rightOk := impl.Added(list[i], bc)
				if !leftOk || !rightOk || left != right || left != list[(i+j+k)%allPoints] {
					t.Fatalf("of %v, %v and %v: %v or %v", list[i], list[j], list[k], left, right)
				}
			}
		}
	}
}

func TestOpposite(t *testing.T) {
	for i, p := range pointsInTurn(t) {
		want := impl.Point{X: (impl.P - p.X) % impl.P, Y: p.Y}
		got, ok := impl.Opposite(p)
		if !ok || got != want || !impl.PointOk(got) {
			t.Fatalf("Opposite(%v) = %v %v", p, got, ok)
		}
		if sum, ok := impl.Added(p, got); !ok || sum != (impl.Point{X: 0, Y: 1}) {
			t.Fatalf("point %d: %v and its Opposite are %v %v", i, p, sum, ok)
		}
	}
	for _, p := range []impl.Point{{X: 0, Y: 1}, {X: 0, Y: 10006}} {
		if got, ok := impl.Opposite(p); !ok || got != p {
			t.Errorf("Opposite(%v) = %v %v", p, got, ok)
		}
	}
}

// Promise 2: 10196 Times each is Nought; and of other n what stands there in turn.
func TestPromise2TimesComesBack(t *testing.T) {
	list := pointsInTurn(t)
	for i, p := range list {
		for _, n := range []int64{0, 1, 2, 3, 4, 5, 2548, 2549, 2550, 10195, 10196, 10197, 1 << 20, 1 << 31, 1 << 32, maxPower - 1, maxPower} {
			want := list[int64(i)*(n%allPoints)%allPoints]
			got, ok := impl.Times(n, p)
			if !ok || got != want {
				t.Fatalf("Times(%d, %v) = %v %v, want %v", n, p, got, ok, want)
			}
		}
		if got, ok := impl.Times(10196, p); !ok || got != impl.Nought() {
			t.Fatalf("Times(10196, %v) = %v %v", p, got, ok)
		}
	}
}

func TestTimesIsAddedTimesOver(t *testing.T) {
	for _, p := range []impl.Point{impl.Base(), impl.Nought(), {X: 1, Y: 0}, {X: 10006, Y: 0}, {X: 0, Y: 10006}, {X: 4995, Y: 5918}} {
		sum := impl.Nought()
		for n := int64(0); n <= 2*allPoints; n++ {
			if got, ok := impl.Times(n, p); !ok || got != sum {
				t.Fatalf("Times(%d, %v) = %v %v, want %v", n, p, got, ok, sum)
			}
			sum, _ = impl.Added(sum, p)
		}
	}
}

func TestBaseComesBackAfterOrder(t *testing.T) {
	for n := int64(1); n < impl.Order; n++ {
		if got, ok := impl.Times(n, impl.Base()); !ok || got == impl.Nought() {
			t.Fatalf("Times(%d, Base) = %v %v", n, got, ok)
		}
	}
	if got, ok := impl.Times(impl.Order, impl.Base()); !ok || got != impl.Nought() {
		t.Fatalf("Times(Order, Base) = %v %v", got, ok)
	}
}

func TestCurveRefusesWhatIsNoPoint(t *testing.T) {
	bad := noPoints()
	others := append([]impl.Point{impl.Nought(), impl.Base(), {X: 1, Y: 0}, {X: 0, Y: 10006}, {X: 4995, Y: 5918}}, bad...)
	for _, p := range bad {
		if got, ok := impl.Opposite(p); ok || got != (impl.Point{}) {
			t.Errorf("Opposite(%v) = %v %v", p, got, ok)
		}
		for _, q := range others {
			if got, ok := impl.Added(p, q); ok || got != (impl.Point{}) {
				t.Errorf("Added(%v, %v) = %v %v", p, q, got, ok)
			}
			if got, ok := impl.Added(q, p); ok || got != (impl.Point{}) {
				t.Errorf("Added(%v, %v) = %v %v", q, p, got, ok)
			}
		}
		for _, n := range append(append([]int64{}, someCounts...), wrongCounts...) {
			if got, ok := impl.Times(n, p); ok || got != (impl.Point{}) {
				t.Errorf("Times(%d, %v) = %v %v", n, p, got, ok)
			}
		}
	}
}

func TestTimesRefusesOtherCounts(t *testing.T) {
	for _, p := range []impl.Point{impl.Nought(), impl.Base(), {X: 1, Y: 0}, {X: 0, Y: 10006}} {
		for _, n := range wrongCounts {
			if got, ok := impl.Times(n, p); ok || got != (impl.Point{}) {
				t.Errorf("Times(%d, %v) = %v %v", n, p, got, ok)
			}
		}
	}
}

// Promise 21 of chapter 2: what is answered is a Point and true or the zero one and false, the same again, whatever was asked between.
func TestPromise21Curve(t *testing.T) {
	points := append([]impl.Point{impl.Nought(), impl.Base(), {X: 1, Y: 0}, {X: 0, Y: 10006}}, noPoints()...)
	counts := append(append([]int64{}, someCounts...), wrongCounts...)
	for _, p := range points {
		for i, q := range points {
			n := counts[i%len(counts)]
			first, firstOk := curveAnswers(p, q, n)
			again, againOk := curveAnswers(p, q, n)
			if first != again || firstOk != againOk {
				t.Fatalf("at %v, %v and %d: %v, then %v", p, q, n, first, again)
			}
			for j, got := range first {
				if firstOk[j] != impl.PointOk(got) || !firstOk[j] && got != (impl.Point{}) {
					t.Fatalf("at %v, %v and %d: answer %d is %v %v", p, q, n, j, got, firstOk[j])
				}
			}
		}
	}
}

func curveAnswers(p, q impl.Point, n int64) (points [3]impl.Point, oks [3]bool) {
	points[0], oks[0] = impl.Added(p, q)
	points[1], oks[1] = impl.Opposite(p)
	points[2], oks[2] = impl.Times(n, p)
	return points, oks
}
