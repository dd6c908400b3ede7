package impl

const P = 10007

// maxPower is the greatest n that Power takes.
const maxPower = 1 << 40

// noElement is said where there is no Element to say.
const noElement = -1

// An element is known to be from 0 to P - 1, so that its methods need not ask again.
type element int64

func (a element) plus(b element) element { return (a + b) % P }

// P is added first, as % keeps the sign of what is below 0.
func (a element) minus(b element) element { return (a - b + P) % P }

func (a element) times(b element) element { return a * b % P }

// power squares its way up: one by one, 2^40 products would take too long.
func (a element) power(n int64) element {
	result := element(1)
	for square := a; n > 0; n /= 2 {
		if n%2 == 1 {
			result = result.times(square)
		}
		square = square.times(square)
	}
	return result
}

// inverse leans on Fermat: a to the power P - 1 is 1, of all but 0, and 0 stays 0.
func (a element) inverse() element { return a.power(P - 2) }

// root leans on Euler: as P is 3 modulo 4, the power (P + 1) / 4 of a square is a root of it,
// that of any other element is none.
func (a element) root() (element, bool) {
	one := a.power((P + 1) / 4)
	if one.times(one) != a {
		return 0, false
	}
	return min(one, element(0).minus(one)), true
}

func ofOne(a int64, act func(element) element) int64 {
	if !ElementOk(a) {
		return noElement
	}
	return int64(act(element(a)))
}

func ofTwo(a int64, b int64, act func(element, element) element) int64 {
	if !ElementOk(a) || !ElementOk(b) {
		return noElement
	}
	return int64(act(element(a), element(b)))
}

func ofCount(n int64, act func(int64) element) int64 {
	if n < 0 || n > maxPower {
		return noElement
	}
	return int64(act(n))
}

func ElementOk(a int64) bool { return a >= 0 && a < P }

func Sum(a int64, b int64) int64 { return ofTwo(a, b, element.plus) }

func Less(a int64, b int64) int64 { return ofTwo(a, b, element.minus) }

func Product(a int64, b int64) int64 { return ofTwo(a, b, element.times) }

func Power(a int64, n int64) int64 {
	if !ElementOk(a) {
		return noElement
	}
	return ofCount(n, element(a).power)
}

func Inverse(a int64) int64 { return ofOne(a, element.inverse) }

func Root(a int64) int64 {
	if !ElementOk(a) {
		return noElement
	}
	root, ok := element(a).root()
	if !ok {
		return noElement
	}
	return int64(root)
}
