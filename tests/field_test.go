package tests

import (
	"math"
	"math/big"
	"testing"

	"loop.example/g00307/impl"
)

const maxPower = int64(1) << 40

// noElements are wrong on either side of the field, the nearest and the farthest.
var noElements = []int64{math.MinInt64, math.MinInt64 + 1, -impl.P - 1, -impl.P, -impl.P + 1, -2, -1, impl.P, impl.P + 1, 2 * impl.P, math.MaxInt64 - 1, math.MaxInt64}

// someElements are the edges, the middle, and a few between.
var someElements = []int64{0, 1, 2, 3, 23, 100, 2791, 5002, 5003, 5004, 6375, 9999, 10005, 10006}

// wrongCounts are no n of Power.
var wrongCounts = []int64{math.MinInt64, -maxPower, -impl.P, -2, -1, maxPower + 1, maxPower + 2, 2 * maxPower, math.MaxInt64}

// someCounts are n of Power, both edges among them.
var someCounts = []int64{0, 1, 2, 3, 5003, 10005, 10006, 10007, 1 << 31, 1 << 32, maxPower - 1, maxPower}

func bigPower(a, n int64) int64 {
	return new(big.Int).Exp(big.NewInt(a), big.NewInt(n), big.NewInt(impl.P)).Int64()
}

// roundBig takes the remainder that is never below 0.
func roundBig(x *big.Int) int64 {
	return new(big.Int).Mod(x, big.NewInt(impl.P)).Int64()
}

func TestFieldSizeIsPrime(t *testing.T) {
	if impl.P != 10007 || !big.NewInt(impl.P).ProbablyPrime(20) {
		t.Fatal(impl.P)
	}
}

func TestElementOk(t *testing.T) {
	for a := int64(-20000); a <= 30000; a++ {
		if want := a >= 0 && a <= 10006; impl.ElementOk(a) != want {
			t.Fatalf("ElementOk(%d) is not %v", a, want)
		}
	}
	for _, a := range noElements {
		if impl.ElementOk(a) {
			t.Errorf("ElementOk(%d)", a)
		}
	}
}

func TestSumLessProductGoRound(t *testing.T) {
	for _, a := range someElements {
		for b := int64(0); b < impl.P; b++ {
			x, y := big.NewInt(a), big.NewInt(b)
			sum := roundBig(new(big.Int).Add(x, y))
			less := roundBig(new(big.Int).Sub(x, y))
			product := roundBig(new(big.Int).Mul(x, y))
			if got := impl.Sum(a, b); got != sum || impl.Sum(b, a) != sum {
				t.Fatalf("Sum(%d, %d) = %d, want %d", a, b, got, sum)
			}
			if got := impl.Less(a, b); got != less {
				t.Fatalf("Less(%d, %d) = %d, want %d", a, b, got, less)
			}
			if got := impl.Product(a, b); got != product || impl.Product(b, a) != product {
				t.Fatalf("Product(%d, %d) = %d, want %d", a, b, got, product)
			}
		}
	}
}

func TestLessUndoesSum(t *testing.T) {
	for a := int64(0); a < impl.P; a++ {
		for b := int64(0); b < impl.P; b += 89 {
			if got := impl.Less(impl.Sum(a, b), b); got != a {
				t.Fatalf("Less(Sum(%d, %d), %d) = %d", a, b, b, got)
			}
			if got := impl.Sum(impl.Less(b, a), a); got != b {
				t.Fatalf("Sum(Less(%d, %d), %d) = %d", b, a, a, got)
			}
		}
	}
}

func TestFieldRefusesWhatIsNoElement(t *testing.T) {
	for _, bad := range noElements {
		if got := impl.Inverse(bad); got != -1 {
			t.Errorf("Inverse(%d) = %d", bad, got)
		}
		if got := impl.Root(bad); got != -1 {
			t.Errorf("Root(%d) = %d", bad, got)
		}
		for _, other := range append(append([]int64{}, someElements...), noElements...) {
			refusePair(t, bad, other)
			refusePair(t, other, bad)
		}
	}
}

func refusePair(t *testing.T, a, b int64) {
	t.Helper()
	if got := impl.Sum(a, b); got != -1 {
		t.Errorf("Sum(%d, %d) = %d", a, b, got)
	}
	if got := impl.Less(a, b); got != -1 {
		t.Errorf("Less(%d, %d) = %d", a, b, got)
	}
	if got := impl.Product(a, b); got != -1 {
		t.Errorf("Product(%d, %d) = %d", a, b, got)
	}
}

func TestPowerIsProductTimesOver(t *testing.T) {
	for _, a := range someElements {
		want := int64(1)
		for n := int64(0); n <= 2*impl.P; n++ {
			if got := impl.Power(a, n); got != want {
				t.Fatalf("Power(%d, %d) = %d, want %d", a, n, got, want)
			}
			want = want * a % impl.P
		}
	}
}

func TestPowerAtGreatCounts(t *testing.T) {
	for a := int64(0); a < impl.P; a++ {
		for _, n := range someCounts {
			if got, want := impl.Power(a, n), bigPower(a, n); got != want {
				t.Fatalf("Power(%d, %d) = %d, want %d", a, n, got, want)
			}
		}
	}
}

func TestPowerOfNought(t *testing.T) {
	if got := impl.Power(0, 0); got != 1 {
		t.Errorf("Power(0, 0) = %d", got)
	}
	for _, n := range someCounts[1:] {
		if got := impl.Power(0, n); got != 0 {
			t.Errorf("Power(0, %d) = %d", n, got)
		}
	}
}

func TestPowerRefuses(t *testing.T) {
	for _, n := range wrongCounts {
		for _, a := range append(append([]int64{}, someElements...), noElements...) {
			if got := impl.Power(a, n); got != -1 {
				t.Errorf("Power(%d, %d) = %d", a, n, got)
			}
		}
	}
	for _, a := range noElements {
		for _, n := range someCounts {
			if got := impl.Power(a, n); got != -1 {
				t.Errorf("Power(%d, %d) = %d", a, n, got)
			}
		}
	}
}

// Promise 1, FERMAT.
func TestPromise1Fermat(t *testing.T) {
	for a := int64(1); a < impl.P; a++ {
		if got := impl.Power(a, 10006); got != 1 {
			t.Fatalf("Power(%d, 10006) = %d", a, got)
		}
	}
	if got := impl.Power(0, 10006); got != 0 {
		t.Fatalf("Power(0, 10006) = %d", got)
	}
}

// Promise 1, EULER; the roots are held against a table of all squares.
func TestPromise1Euler(t *testing.T) {
	var lesser [impl.P]int64
	for a := range lesser {
		lesser[a] = -1
	}
	for r := int64(impl.P - 1); r >= 0; r-- {
		lesser[r*r%impl.P] = r
	}
	count := 0
	for a := int64(0); a < impl.P; a++ {
		root, half := impl.Root(a), impl.Power(a, 5003)
		if root != lesser[a] {
			t.Fatalf("Root(%d) = %d, want %d", a, root, lesser[a])
		}
		if (root != -1) != (half == 0 || half == 1) {
			t.Fatalf("Root(%d) = %d, but Power(%d, 5003) = %d", a, root, a, half)
		}
		if root != -1 {
			count++
		}
	}
	if count != 5004 {
		t.Fatalf("%d Elements have a Root", count)
	}
}

// A Root is right by what the program itself says of Product, and the other root is not less.
func TestRootIsTheLesserOne(t *testing.T) {
	for a := int64(0); a < impl.P; a++ {
		root := impl.Root(a)
		if root == -1 {
			continue
		}
		if impl.Product(root, root) != a || root > impl.Less(0, root) {
			t.Fatalf("Root(%d) = %d", a, root)
		}
	}
}

// The inverses are held against a table made by Euclid's way.
func TestInverse(t *testing.T) {
	if got := impl.Inverse(0); got != 0 {
		t.Fatalf("Inverse(0) = %d", got)
	}
	p := big.NewInt(impl.P)
	for a := int64(1); a < impl.P; a++ {
		got, want := impl.Inverse(a), new(big.Int).ModInverse(big.NewInt(a), p).Int64()
		if got != want || impl.Product(a, got) != 1 || impl.Product(got, a) != 1 {
			t.Fatalf("Inverse(%d) = %d, want %d", a, got, want)
		}
	}
}

// Promise 21 of chapter 1: at any two numbers each function answers -1 or an Element, and the same one again.
func TestPromise21Field(t *testing.T) {
	all := append(append([]int64{}, someElements...), noElements...)
	all = append(append(all, someCounts...), wrongCounts...)
	for _, a := range all {
		for _, b := range all {
			first, again := fieldAnswers(a, b), fieldAnswers(a, b)
			for i, x := range first {
				if x != -1 && !impl.ElementOk(x) || x != again[i] {
					t.Fatalf("at %d and %d: answer %d is %d, then %d", a, b, i, x, again[i])
				}
			}
		}
	}
}

func fieldAnswers(a, b int64) [6]int64 {
	return [6]int64{impl.Sum(a, b), impl.Less(a, b), impl.Product(a, b), impl.Power(a, b), impl.Inverse(a), impl.Root(a)}
}
