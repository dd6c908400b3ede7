package tests

import (
	"cmp"
	"fmt"
	"maps"
	"math"
	"slices"
	"testing"

	"loop.example/g00307/impl"
)

// The constants have no kind of their own, so that they go with any number.
const _ float64 = impl.MbUp + impl.MbDoubted + impl.MbDown

// noStates are wrong on either side, the nearest and the farthest.
var noStates = []int64{math.MinInt64, math.MinInt64 + 1, -3, -2, -1, 3, 4, 5, 1 << 32, 1<<32 + 1, math.MaxInt64 - 1, math.MaxInt64}

var edgeIds = []int64{0, 1, 3, 6, 7}

func member(id, turn, state int64) impl.Member {
	return impl.Member{Id: id, Turn: turn, State: state}
}

func memberByWords(m impl.Member) bool {
	return m.Id >= 0 && m.Id < 8 && timeByWords(m.Turn) && (m.State == 0 || m.State == 1 || m.State == 2)
}

// membersByWords holds any two Ids against each other, where the program takes neighbours.
func membersByWords(list []impl.Member) bool {
	for i, m := range list {
		if !memberByWords(m) {
			return false
		}
		for _, later := range list[i+1:] {
			if m.Id >= later.Id {
				return false
			}
		}
	}
	return len(list) <= 8
}

func strongerByWords(a, b impl.Member) bool {
	return cmp.Or(cmp.Compare(a.Turn, b.Turn), cmp.Compare(a.State, b.State)) > 0
}

// mergedByWords has all of one Id side by side, the strongest first, and takes that, where the program puts one by one in its place.
func mergedByWords(a, b []impl.Member) []impl.Member {
	if !membersByWords(a) || !membersByWords(b) {
		return nil
	}
	all := slices.Concat(a, b)
	slices.SortFunc(all, func(x, y impl.Member) int {
		return cmp.Or(cmp.Compare(x.Id, y.Id), cmp.Compare(y.Turn, x.Turn), cmp.Compare(y.State, x.State))
	})
	return slices.CompactFunc(all, func(x, y impl.Member) bool { return x.Id == y.Id })
}

// turnedByWords is Doubted (from 0 to 1) and Dropped (from 1 to 2).
func turnedByWords(list []impl.Member, id, from, to int64) ([]impl.Member, bool) {
	if !membersByWords(list) {
		return nil, false
	}
	turned, ok := []impl.Member{}, false
	for _, m := range list {
		if m.Id == id && m.State == from {
			m.State, ok = to, true
		}
		turned = append(turned, m)
	}
	return turned, ok
}

func backByWords(list []impl.Member, id int64) ([]impl.Member, bool) {
	if !membersByWords(list) {
		return nil, false
	}
	was, there := memberOf(list, id)
	if id < 0 || id > 7 || there && was.Turn == 1000000 {
		return slices.Clone(list), false
	}
	now := member(id, 0, 0)
	if there {
		now.Turn = was.Turn + 1
	}
	all := append(withoutId(list, id), now)
	slices.SortFunc(all, func(x, y impl.Member) int { return cmp.Compare(x.Id, y.Id) })
	return all, true
}

func memberOf(list []impl.Member, id int64) (impl.Member, bool) {
	for _, m := range list {
		if m.Id == id {
			return m, true
		}
	}
	return impl.Member{}, false
}

func withoutId(list []impl.Member, id int64) []impl.Member {
	return slices.DeleteFunc(slices.Clone(list), func(m impl.Member) bool { return m.Id == id })
}

func sameMembers(a, b []impl.Member) bool { return slices.Equal(a, b) }

// memberKinds are Members of one Id, among them two that differ in Turn alone, in State alone, and in both.
func memberKinds(id int64) []impl.Member {
	list := []impl.Member{}
	for _, turn := range []int64{4, 5} {
		for state := range int64(3) {
			list = append(list, member(id, turn, state))
		}
	}
	return list
}

// membersOfIds has one drawn Member of each of these Ids.
func membersOfIds(draw func(int) int, ids []int64) []impl.Member {
	list := []impl.Member{}
	for _, id := range ids {
		some := memberKinds(id)
		list = append(list, some[draw(len(some))])
	}
	return list
}

// idsOf has the Ids of which the bits are set, in order.
func idsOf(bits int) []int64 {
	ids := []int64{}
	for id := range int64(8) {
		if bits>>id&1 == 1 {
			ids = append(ids, id)
		}
	}
	return ids
}

// allIds are those that are right, the next ones that are not, and the farthest.
func allIds() []int64 { return slices.Concat(idsOf(255), noNodes) }

// manyMembers are n in order, from this Id on; from 0 more than 8 are wrong.
func manyMembers(from int64, n int) []impl.Member {
	list := []impl.Member{}
	for i := range int64(n) {
		list = append(list, member(from+i, impl.MaxTime, impl.MbDown))
	}
	return list
}

// drawnMemberTriples are three Members each, with all, some or no Ids in common.
func drawnMemberTriples() [][3][]impl.Member {
	triples := [][3][]impl.Member{}
	draw := drawFrom(12)
	of := func(bits int) []impl.Member { return membersOfIds(draw, idsOf(bits)) }
	for range 200 {
		cut, bits := 1+draw(254), draw(256)
		triples = append(triples,
			[3][]impl.Member{of(255), of(255), of(255)},
			[3][]impl.Member{of(draw(256)), of(draw(256)), of(draw(256))},
			[3][]impl.Member{of(cut), of(255 &^ cut), of(draw(256))},
			[3][]impl.Member{of(bits & 0x11), of(bits & 0x22), of(bits & 0xcc)},
			[3][]impl.Member{of(bits), of(bits), of(bits)},
		)
	}
	return triples
}

// wrongMembers are each wrong in one place, or in more.
func wrongMembers() []impl.Member {
	list := []impl.Member{}
	for _, id := range noNodes {
		list = append(list, member(id, 0, 0), member(id, 5, 2))
	}
	for _, turn := range noTimes {
		list = append(list, member(3, turn, 0), member(3, turn, 2))
	}
	for _, state := range noStates {
		list = append(list, member(3, 0, state), member(3, 5, state))
	}
	for _, far := range []int64{math.MinInt64, -1, 1000001, math.MaxInt64} {
		list = append(list, member(far, far, far))
	}
	return list
}

// noMembers are wrong in one of them, in their order or their number.
func noMembers() map[string][]impl.Member {
	a, b, c := member(1, 5, 0), member(3, 4, 1), member(6, 4, 2)
	wayRound := manyMembers(0, 8)
	slices.Reverse(wayRound)
	lists := map[string][]impl.Member{
		"one twice":                           {a, a},
		"two of one Id":                       {a, member(1, 6, 0)},
		"two of one Id, the Stronger first":   {member(1, 6, 0), a},
		"two of one Id, that differ in State": {member(1, 5, 1), member(1, 5, 2)},
		"two of one Id at the end":            {a, b, b},
		"two of one Id in the middle":         {a, b, member(3, 0, 0), c},
		"one again, not side by side":         {a, b, a},
		"two in the wrong order":              {b, a},
		"the first two in the wrong order":    {b, a, c},
		"the last two in the wrong order":     {a, c, b},
		"the first and the last changed":      {c, b, a},
		"by Turn, not by Id":                  {member(4, 1, 0), member(2, 2, 0)},
		"9 from 0 on":                         manyMembers(0, 9),
		"9 from -1 on":                        manyMembers(-1, 9),
		"9, the last one twice":               append(manyMembers(0, 8), manyMembers(7, 1)...),
		"9, the first one twice":              append(manyMembers(0, 1), manyMembers(0, 8)...),
		"9, once around":                      append(manyMembers(0, 8), manyMembers(0, 1)...),
		"10":                                  manyMembers(0, 10),
		"16, all twice":                       append(manyMembers(0, 8), manyMembers(0, 8)...),
		"1000":                                manyMembers(-500, 1000),
		"8, the wrong way round":              wayRound,
	}
	for i, wrong := range wrongMembers() {
		lists[fmt.Sprintf("alone, wrong one %d", i)] = []impl.Member{wrong}
		lists[fmt.Sprintf("first, wrong one %d", i)] = []impl.Member{wrong, member(6, 4, 0), member(7, 4, 0)}
		lists[fmt.Sprintf("amid, wrong one %d", i)] = []impl.Member{a, wrong, c}
		lists[fmt.Sprintf("last, wrong one %d", i)] = []impl.Member{member(0, 4, 0), a, wrong}
	}
	return lists
}

// someMembers are right, from none to as many as there may be.
func someMembers() [][]impl.Member {
	draw := drawFrom(6)
	lists := [][]impl.Member{nil, {}, {member(0, 0, 0)}, {member(7, impl.MaxTime, 2)}, {member(1, 5, 0), member(3, 4, 1), member(6, impl.MaxTime, 2)}, manyMembers(0, 1), manyMembers(1, 7), manyMembers(0, 8)}
	lists = append(lists, []impl.Member{member(2, impl.MaxTime-1, 0), member(3, impl.MaxTime-1, 2), member(4, impl.MaxTime, 0), member(5, impl.MaxTime, 1)})
	for range 30 {
		lists = append(lists, membersOfIds(draw, idsOf(draw(256))))
	}
	return lists
}

func askMerged(t *testing.T, a, b []impl.Member) []impl.Member {
	t.Helper()
	got := impl.Merged(a, b)
	if want := mergedByWords(a, b); !sameMembers(got, want) {
		t.Fatalf("Merged(%.300v, %.300v) = %.300v, not %.300v", a, b, got, want)
	}
	return got
}

// askTurns asks what becomes of one Id, each time of the list as it is.
func askTurns(t *testing.T, list []impl.Member, id int64) {
	t.Helper()
	ask := func(what string, got []impl.Member, ok bool) func([]impl.Member, bool) {
		return func(want []impl.Member, wantOk bool) {
			t.Helper()
			if ok != wantOk || !sameMembers(got, want) {
				t.Fatalf("%s(%.300v, %d) = %.300v, %v, not %.300v, %v", what, list, id, got, ok, want, wantOk)
			}
		}
	}
	got, ok := impl.Doubted(list, id)
	ask("Doubted", got, ok)(turnedByWords(list, id, 0, 1))
	got, ok = impl.Dropped(list, id)
	ask("Dropped", got, ok)(turnedByWords(list, id, 1, 2))
	got, ok = impl.Back(list, id)
	ask("Back", got, ok)(backByWords(list, id))
}

// askMembers asks all that is told of right Members.
func askMembers(t *testing.T, list []impl.Member) {
	t.Helper()
	if !impl.MembersOk(list) {
		t.Fatalf("MembersOk(%v) is false", list)
	}
	for _, id := range allIds() {
		askTurns(t, list, id)
	}
	for _, got := range [][]impl.Member{askMerged(t, list, nil), askMerged(t, nil, list), askMerged(t, list, list)} {
		if !sameMembers(got, list) {
			t.Fatalf("%v Merged with nothing new is %v", list, got)
		}
	}
}

func askAreNoMembers(t *testing.T, what string, list []impl.Member) {
	t.Helper()
	if impl.MembersOk(list) || membersByWords(list) {
		t.Fatalf("%s: %.300v are right", what, list)
	}
	ask := func(name string, got []impl.Member, ok bool) {
		t.Helper()
		if ok || len(got) > 0 {
			t.Fatalf("%s: %s is %.300v, %v", what, name, got, ok)
		}
	}
	for _, id := range allIds() {
		got, ok := impl.Doubted(list, id)
		ask(fmt.Sprint("Doubted of ", id), got, ok)
		got, ok = impl.Dropped(list, id)
		ask(fmt.Sprint("Dropped of ", id), got, ok)
		got, ok = impl.Back(list, id)
		ask(fmt.Sprint("Back of ", id), got, ok)
	}
	ask("Merged with none", impl.Merged(list, nil), false)
	ask("none, Merged with it,", impl.Merged(nil, list), false)
	ask("Merged with itself", impl.Merged(list, list), false)
}

func TestMembersKnown(t *testing.T) {
	if impl.MbUp != 0 || impl.MbDoubted != 1 || impl.MbDown != 2 {
		t.Fatal("constants")
	}
	mine := []impl.Member{member(0, 3, 0), member(2, 3, 1), member(5, 9, 0)}
	yours := []impl.Member{member(2, 3, 2), member(4, 0, 0), member(5, 8, 2)}
	ours := []impl.Member{member(0, 3, 0), member(2, 3, 2), member(4, 0, 0), member(5, 9, 0)}
	if got := impl.Merged(mine, yours); !sameMembers(got, ours) {
		t.Errorf("Merged = %v", got)
	}
	ask := func(what string, got []impl.Member, ok bool, wantOk bool, want ...impl.Member) {
		t.Helper()
		if ok != wantOk || !sameMembers(got, want) {
			t.Errorf("%s = %v, %v", what, got, ok)
		}
	}
	got, ok := impl.Doubted(mine, 0)
	ask("Doubted 0", got, ok, true, member(0, 3, 1), member(2, 3, 1), member(5, 9, 0))
	got, ok = impl.Doubted(mine, 2)
	ask("Doubted 2", got, ok, false, mine...)
	got, ok = impl.Doubted(mine, 1)
	ask("Doubted 1", got, ok, false, mine...)
	got, ok = impl.Dropped(mine, 2)
	ask("Dropped 2", got, ok, true, member(0, 3, 0), member(2, 3, 2), member(5, 9, 0))
	got, ok = impl.Dropped(mine, 5)
	ask("Dropped 5", got, ok, false, mine...)
	got, ok = impl.Back(mine, 2)
	ask("Back 2", got, ok, true, member(0, 3, 0), member(2, 4, 0), member(5, 9, 0))
	got, ok = impl.Back(mine, 5)
	ask("Back 5", got, ok, true, member(0, 3, 0), member(2, 3, 1), member(5, 10, 0))
	got, ok = impl.Back(mine, 3)
	ask("Back 3", got, ok, true, member(0, 3, 0), member(2, 3, 1), member(3, 0, 0), member(5, 9, 0))
	got, ok = impl.Back(mine, 8)
	ask("Back 8", got, ok, false, mine...)
}

// Each Id, Turn and State at its edges with each of the others.
func TestMembersAtTheirEdges(t *testing.T) {
	rightOnes := 0
	for _, id := range slices.Concat(edgeIds, noNodes) {
		for _, turn := range slices.Concat(edgeTimes, noTimes) {
			for _, state := range slices.Concat([]int64{0, 1, 2}, noStates) {
				m := member(id, turn, state)
				alone := []impl.Member{m}
				if got := impl.MembersOk(alone); got != memberByWords(m) {
					t.Fatalf("MembersOk of %v alone is %v", m, got)
				}
				if memberByWords(m) {
					rightOnes++
				}
				for _, other := range []int64{id, 0, 7, -1, 8} {
					askTurns(t, alone, other)
				}
				askMerged(t, alone, nil)
				askMerged(t, nil, alone)
				askMerged(t, alone, alone)
				askMerged(t, alone, []impl.Member{member(3, 5, 1)})
				askMerged(t, []impl.Member{member(3, 5, 1)}, alone)
			}
		}
	}
	if rightOnes != 5*14*3 {
		t.Fatalf("%d are right", rightOnes)
	}
}

func TestMembersRight(t *testing.T) {
	for _, list := range someMembers() {
		if !membersByWords(list) {
			t.Fatalf("%v are not right", list)
		}
		askMembers(t, list)
	}
}

// Each set of Ids, and each Id that is in it or not: Back goes into each place that there is.
func TestMembersOfEachSetOfIds(t *testing.T) {
	draw := drawFrom(8)
	for bits := range 256 {
		list := membersOfIds(draw, idsOf(bits))
		askMembers(t, list)
		for _, id := range idsOf(255 &^ bits) {
			got, ok := impl.Back(list, id)
			if now, there := memberOf(got, id); !ok || !there || now != member(id, 0, impl.MbUp) || len(got) != len(list)+1 {
				t.Fatalf("Back(%v, %d) = %v, %v", list, id, got, ok)
			}
		}
	}
}

func TestMembersOfTwoAndThreeIds(t *testing.T) {
	ids := []int64{math.MinInt64, -1, 0, 1, 2, 3, 4, 5, 6, 7, 8, math.MaxInt64}
	right := 0
	for _, a := range ids {
		for _, b := range ids {
			two := []impl.Member{member(a, 5, 0), member(b, 5, 0)}
			if got := impl.MembersOk(two); got != (0 <= a && a < b && b <= 7) {
				t.Fatalf("MembersOk(%v) is %v", two, got)
			}
			askMerged(t, two[:1], two[1:])
			for _, c := range ids {
				three := []impl.Member{member(a, 1, 0), member(b, 2, 1), member(c, 3, 2)}
				if got := impl.MembersOk(three); got != membersByWords(three) {
					t.Fatalf("MembersOk(%v) is %v", three, got)
				} else if got {
					right++
				}
			}
		}
	}
	if right != 8*7*6/6 {
		t.Fatalf("%d are right", right)
	}
}

func TestMembersAsManyAsAny(t *testing.T) {
	for n := range 12 {
		list := manyMembers(0, n)
		if got := impl.MembersOk(list); got != (n <= 8) {
			t.Fatalf("MembersOk of %d is %v", n, got)
		}
		if n <= 8 {
			askMembers(t, list)
		} else {
			askAreNoMembers(t, fmt.Sprint(n), list)
		}
	}
}

func TestNoMembers(t *testing.T) {
	wrong := noMembers()
	for what, list := range wrong {
		askAreNoMembers(t, what, list)
		for _, right := range someMembers() {
			if front, behind := impl.Merged(list, right), impl.Merged(right, list); len(front) > 0 || len(behind) > 0 {
				t.Fatalf("%s, Merged with %v: %v, %v", what, right, front, behind)
			}
		}
		for other, also := range wrong {
			if got := impl.Merged(list, also); len(got) > 0 {
				t.Fatalf("%s and %s: Merged is %v", what, other, got)
			}
		}
	}
}

// Each place is looked at, the first and the last of eight among them.
func TestNoMembersByOneMember(t *testing.T) {
	right := manyMembers(0, 8)
	for at := range right {
		id := int64(at)
		for i, m := range []impl.Member{
			member(-1, 5, 0), member(8, 5, 0), member((id+1)%8, 5, 0), member((id+7)%8, 5, 0),
			member(id, -1, 0), member(id, 1000001, 0), member(id, 5, -1), member(id, 5, 3),
		} {
			list := slices.Clone(right)
			list[at] = m
			what := fmt.Sprintf("wrong one %d at %d", i, at)
			askAreNoMembers(t, what, list)
			for _, other := range [][]impl.Member{right, right[:4]} {
				if got, back := impl.Merged(list, other), impl.Merged(other, list); len(got) > 0 || len(back) > 0 {
					t.Fatalf("%s: Merged is %v, %v", what, got, back)
				}
			}
		}
	}
}

// askStronger wants just one to be Stronger where the two differ in Turn or in State, and none where they do not.
func askStronger(t *testing.T, a, b impl.Member) {
	t.Helper()
	ab, ba := impl.Stronger(a, b), impl.Stronger(b, a)
	if ab != strongerByWords(a, b) || ba != strongerByWords(b, a) {
		t.Fatalf("Stronger(%v, %v) is %v, the other way %v", a, b, ab, ba)
	}
	b.Id = a.Id
	if (a == b) == (ab || ba) || ab && ba {
		t.Fatalf("%v and %v: %v and %v", a, b, ab, ba)
	}
}

func TestStrongerStepByStep(t *testing.T) {
	ask := func(more, less impl.Member, want bool) {
		t.Helper()
		for _, id := range []int64{0, 3, 7, -1, 8} {
			more.Id = id
			if impl.Stronger(more, less) != want || impl.Stronger(less, more) {
				t.Errorf("%v, %v: %v, %v", more, less, impl.Stronger(more, less), impl.Stronger(less, more))
			}
		}
	}
	for state := range int64(3) {
		for other := range int64(3) {
			ask(member(0, 6, state), member(3, 5, other), true)
			ask(member(0, 1, state), member(3, 0, other), true)
			ask(member(0, impl.MaxTime, state), member(3, impl.MaxTime-1, other), true)
		}
		ask(member(0, 5, state), member(3, 5, state), false)
	}
	ask(member(0, 5, impl.MbDoubted), member(3, 5, impl.MbUp), true)
	ask(member(0, 5, impl.MbDown), member(3, 5, impl.MbDoubted), true)
	ask(member(0, 5, impl.MbDown), member(3, 5, impl.MbUp), true)
}

// Stronger is asked of right Members and of wrong ones: it does not ask which they are.
func TestStrongerOfAny(t *testing.T) {
	numbers := []int64{math.MinInt64, math.MinInt64 + 1, -1, 0, 1, 2, 3, 7, 8, 999999, 1000000, 1000001, 1 << 32, math.MaxInt64 - 1, math.MaxInt64}
	list := []impl.Member{}
	for i, turn := range numbers {
		for j, state := range numbers {
			list = append(list, member(numbers[(i+3*j)%len(numbers)], turn, state), member(numbers[(2*i+j)%len(numbers)], turn, state))
		}
	}
	for _, a := range list {
		for _, b := range list {
			askStronger(t, a, b)
		}
	}
}

// None is Stronger than itself, and Stronger goes on: so there is one strongest, whoever asks.
func TestPromise12StrongerIsAnOrder(t *testing.T) {
	list := memberKinds(3)
	for _, a := range list {
		for _, b := range list {
			askStronger(t, a, b)
			for _, c := range list {
				if impl.Stronger(a, b) && impl.Stronger(b, c) && !impl.Stronger(a, c) {
					t.Fatalf("%v, %v, %v", a, b, c)
				}
			}
		}
	}
}

// askPromise12 is the promise, word by word, of two.
func askPromise12(t *testing.T, a, b []impl.Member) {
	t.Helper()
	merged, other := askMerged(t, a, b), askMerged(t, b, a)
	if !sameMembers(merged, other) {
		t.Fatalf("Merged of %v and %v is %v, the other way %v", a, b, merged, other)
	}
	if again := impl.Merged(a, a); !sameMembers(again, a) {
		t.Fatalf("Merged of %v with itself is %v", a, again)
	}
	for _, one := range [][]impl.Member{a, b, merged} {
		if more, back := impl.Merged(merged, one), impl.Merged(one, merged); !sameMembers(more, merged) || !sameMembers(back, merged) {
			t.Fatalf("%v with %v once more is %v or %v", merged, one, more, back)
		}
	}
	askStrongest(t, a, b, merged)
}

// askStrongest wants one Member of each Id, out of a or b, than which neither has a Stronger one.
func askStrongest(t *testing.T, a, b, merged []impl.Member) {
	t.Helper()
	if !impl.MembersOk(merged) {
		t.Fatalf("%v are not right", merged)
	}
	all := slices.Concat(a, b)
	for _, m := range merged {
		if !slices.Contains(all, m) {
			t.Fatalf("%v comes from nowhere", m)
		}
	}
	for _, m := range all {
		kept := slices.DeleteFunc(slices.Clone(merged), func(one impl.Member) bool { return one.Id != m.Id })
		if len(kept) != 1 || impl.Stronger(m, kept[0]) {
			t.Fatalf("of %v there is %v", m, kept)
		}
	}
}

func askEachWay(t *testing.T, a, b, c []impl.Member) {
	t.Helper()
	left, right := impl.Merged(impl.Merged(a, b), c), impl.Merged(a, impl.Merged(b, c))
	if !sameMembers(left, right) {
		t.Fatalf("%v, %v, %v: %v, %v", a, b, c, left, right)
	}
}

func askEachThreeMembers(t *testing.T, lists [][]impl.Member) {
	t.Helper()
	for _, a := range lists {
		for _, b := range lists {
			askPromise12(t, a, b)
			for _, c := range lists {
				askEachWay(t, a, b, c)
			}
		}
	}
}

func TestPromise12DrawnMembers(t *testing.T) {
	for _, lists := range drawnMemberTriples() {
		askEachThreeMembers(t, lists[:])
	}
}

// Of the drawn Members some differ in Turn alone, in State alone and in both, and some have no Id in common.
func TestDrawnMembersDiffer(t *testing.T) {
	counts := map[string]int{}
	for _, lists := range drawnMemberTriples() {
		common := 0
		for _, a := range lists[0] {
			if b, there := memberOf(lists[1], a.Id); there {
				common++
				counts[fmt.Sprint(a.Turn != b.Turn, a.State != b.State)]++
			}
		}
		if common == 0 && len(lists[0]) > 0 && len(lists[1]) > 0 {
			counts["none in common"]++
		}
	}
	for _, what := range []string{"true false", "false true", "true true", "false false", "none in common"} {
		if counts[what] < 100 {
			t.Errorf("%d differ by %s", counts[what], what)
		}
	}
}

// Each three Members of one Id, in full.
func TestPromise12EachOfOneId(t *testing.T) {
	for _, id := range edgeIds {
		lists := [][]impl.Member{{}}
		for _, m := range append(memberKinds(id), member(id, 0, 0), member(id, impl.MaxTime, 0), member(id, impl.MaxTime, 2)) {
			lists = append(lists, []impl.Member{m})
		}
		askEachThreeMembers(t, lists)
	}
}

// Each three Members of two Ids, side by side and far apart.
func TestPromise12EachOfTwoIds(t *testing.T) {
	few := func(id int64) [][]impl.Member {
		return [][]impl.Member{{}, {member(id, 4, 0)}, {member(id, 4, 2)}, {member(id, 5, 0)}, {member(id, 5, 1)}}
	}
	for _, ids := range [][2]int64{{0, 7}, {3, 4}} {
		lists := [][]impl.Member{}
		for _, first := range few(ids[0]) {
			for _, second := range few(ids[1]) {
				lists = append(lists, slices.Concat(first, second))
			}
		}
		askEachThreeMembers(t, lists)
	}
}

// Promise 12: Members that are told in drawn orders, some of them again and again, come to one.
func TestPromise12AnyOrderAnyNumberOfTimes(t *testing.T) {
	draw := drawFrom(78)
	for range 100 {
		lists := [][]impl.Member{}
		for range 6 {
			lists = append(lists, membersOfIds(draw, idsOf(draw(256))))
		}
		want := []impl.Member{}
		for _, list := range lists {
			want = askMerged(t, want, list)
		}
		for range 5 {
			if got := mergedInAnyOrder(draw, lists); !sameMembers(got, want) {
				t.Fatalf("%v, in another order %v", want, got)
			}
		}
	}
}

func mergedInAnyOrder(draw func(int) int, lists [][]impl.Member) []impl.Member {
	got := []impl.Member{}
	left := slices.Clone(lists)
	for len(left) > 0 {
		at := draw(len(left))
		if draw(2) == 0 {
			got = impl.Merged(got, left[at])
		} else {
			got = impl.Merged(left[at], got)
		}
		if draw(3) > 0 {
			left = slices.Delete(left, at, at+1)
		}
	}
	return got
}

// askBack wants the one that is Back to be up, Stronger than what was said of it, and to stay so when that is Merged with it.
func askBack(t *testing.T, list []impl.Member, id int64) {
	t.Helper()
	got, ok := impl.Back(list, id)
	now, there := memberOf(got, id)
	if !ok || !there || now.State != impl.MbUp || !impl.MembersOk(got) {
		t.Fatalf("Back(%v, %d) = %v, %v", list, id, got, ok)
	}
	was, known := memberOf(list, id)
	if known && (now.Turn != was.Turn+1 || !impl.Stronger(now, was)) || !known && now.Turn != 0 {
		t.Fatalf("Back(%v, %d) = %v", list, id, got)
	}
	if !sameMembers(withoutId(got, id), withoutId(list, id)) {
		t.Fatalf("Back(%v, %d) changes others: %v", list, id, got)
	}
	for _, merged := range [][]impl.Member{impl.Merged(got, list), impl.Merged(list, got)} {
		if !sameMembers(merged, got) {
			t.Fatalf("Back(%v, %d) = %v, Merged with what was there %v", list, id, got, merged)
		}
	}
	for turn := max(0, now.Turn-2); turn < now.Turn; turn++ {
		for state := range int64(3) {
			said := []impl.Member{member(id, turn, state)}
			if !sameMembers(impl.Merged(got, said), got) || !sameMembers(impl.Merged(said, got), got) {
				t.Fatalf("%v was Back, but %v is believed", now, said)
			}
		}
	}
}

func TestPromise12WhoIsBackIsUp(t *testing.T) {
	lists := someMembers()
	for _, three := range drawnMemberTriples() {
		lists = append(lists, three[:]...)
	}
	asked := 0
	for _, list := range lists {
		for _, id := range idsOf(255) {
			if was, there := memberOf(list, id); !there || was.Turn < impl.MaxTime {
				askBack(t, list, id)
				asked++
			}
		}
	}
	if asked < 20000 {
		t.Fatalf("%d were asked", asked)
	}
}

// Back of each Turn and State, up to the last one: behind MaxTime there is none.
func TestBackOfEachTurn(t *testing.T) {
	for _, turn := range edgeTimes {
		for state := range int64(3) {
			for _, id := range idsOf(255) {
				list := manyMembers(0, 8)
				list[id] = member(id, turn, state)
				askTurns(t, list, id)
				got, ok := impl.Back(list, id)
				if ok != (turn < 1000000) || !ok && !sameMembers(got, list) {
					t.Fatalf("Back(%v, %d) = %v, %v", list, id, got, ok)
				}
				if ok {
					askBack(t, list, id)
				}
			}
		}
	}
}

func TestBackOutOfRange(t *testing.T) {
	for _, list := range someMembers() {
		for _, id := range noNodes {
			for what, turn := range map[string]func([]impl.Member, int64) ([]impl.Member, bool){"Back": impl.Back, "Doubted": impl.Doubted, "Dropped": impl.Dropped} {
				if got, ok := turn(list, id); ok || !sameMembers(got, list) {
					t.Fatalf("%s(%v, %d) = %v, %v", what, list, id, got, ok)
				}
			}
		}
	}
}

// Promise 12: others doubt one and give it up, it is Back, and whatever of that comes when, all believe that it lives.
func TestPromise12WhoIsBackIsBelieved(t *testing.T) {
	draw := drawFrom(31)
	for range 200 {
		start := membersOfIds(draw, idsOf(255))
		id := int64(draw(8))
		doubted, _ := impl.Doubted(start, id)
		dropped, _ := impl.Dropped(doubted, id)
		back, ok := impl.Back(start, id)
		later, laterOk := impl.Back(back, id)
		if !ok || !laterOk {
			t.Fatalf("%v: %d is not Back", start, id)
		}
		got := mergedInAnyOrder(draw, [][]impl.Member{start, doubted, dropped, back})
		if was, _ := memberOf(start, id); !slices.Contains(got, member(id, was.Turn+1, impl.MbUp)) {
			t.Fatalf("%v: %d is Back, but %v", start, id, got)
		}
		downAgain, _ := impl.Doubted(back, id)
		downAgain, _ = impl.Dropped(downAgain, id)
		got = mergedInAnyOrder(draw, [][]impl.Member{start, dropped, back, downAgain})
		if now, _ := memberOf(got, id); now.State != impl.MbDown {
			t.Fatalf("%v: %d is down again, but %v", start, id, got)
		}
		got = mergedInAnyOrder(draw, [][]impl.Member{later, dropped, back, downAgain})
		if now, _ := memberOf(got, id); now.State != impl.MbUp {
			t.Fatalf("%v: %d is Back again, but %v", start, id, got)
		}
	}
}

// One that is MbUp becomes MbDown only by way of MbDoubted.
func TestDownOnlyByDoubted(t *testing.T) {
	turns := map[string]func([]impl.Member, int64) ([]impl.Member, bool){"Doubted": impl.Doubted, "Dropped": impl.Dropped}
	next := map[string]map[int64]int64{"Doubted": {impl.MbUp: impl.MbDoubted}, "Dropped": {impl.MbDoubted: impl.MbDown}}
	for bits := range 256 {
		for _, turn := range []int64{0, 5, impl.MaxTime} {
			for state := range int64(3) {
				list := []impl.Member{}
				for _, id := range idsOf(bits) {
					list = append(list, member(id, turn, state))
				}
				for what, do := range turns {
					for _, id := range idsOf(255) {
						got, ok := do(list, id)
						want := slices.Clone(list)
						to, goes := next[what][state]
						if at := slices.Index(list, member(id, turn, state)); at >= 0 && goes {
							want[at].State = to
						}
						if !sameMembers(got, want) || ok != !sameMembers(list, want) {
							t.Fatalf("%s(%v, %d) = %v, %v", what, list, id, got, ok)
						}
					}
				}
			}
		}
	}
}

// Each row of six turns, of one Member between two others: after each it is what the words say, and Merged with what it was it stays so.
func TestEachRowOfTurns(t *testing.T) {
	turns := []func([]impl.Member, int64) ([]impl.Member, bool){impl.Doubted, impl.Dropped, impl.Back}
	others := []impl.Member{member(1, 9, 1), member(6, 9, 0)}
	for row := range 729 {
		list := others
		state, turn := int64(-1), int64(-1)
		for rest, i := row, 0; i < 6; rest, i = rest/3, i+1 {
			got, ok := turns[rest%3](list, 4)
			does := true
			switch {
			case rest%3 == 2:
				state, turn = 0, turn+1
			case rest%3 == 0 && state == 0, rest%3 == 1 && state == 1:
				state++
			default:
				does = false
			}
			want := slices.Clone(others)
			if turn >= 0 {
				want = slices.Insert(want, 1, member(4, turn, state))
			}
			if ok != does || !sameMembers(got, want) || !sameMembers(impl.Merged(list, got), got) {
				t.Fatalf("row %d, turn %d: %v becomes %v, %v", row, i, list, got, ok)
			}
			list = got
		}
	}
}

func TestMembersAsTheChapterSays(t *testing.T) {
	lists := someMembers()
	for _, wrong := range noMembers() {
		lists = append(lists, wrong)
	}
	for _, a := range lists {
		for _, b := range lists {
			askMerged(t, a, b)
		}
		for _, id := range allIds() {
			askTurns(t, a, id)
		}
	}
}

// memberArguments are pairs of Members, right ones and wrong ones.
func memberArguments() [][2][]impl.Member {
	pairs := [][2][]impl.Member{}
	right := someMembers()
	for i, list := range right {
		pairs = append(pairs, [2][]impl.Member{list, right[(i+1)%len(right)]}, [2][]impl.Member{list, list})
	}
	wrong := noMembers()
	for _, what := range slices.Sorted(maps.Keys(wrong)) {
		pairs = append(pairs, [2][]impl.Member{wrong[what], right[4]}, [2][]impl.Member{right[4], wrong[what]})
	}
	for _, lists := range drawnMemberTriples()[:50] {
		pairs = append(pairs, [2][]impl.Member{lists[0], lists[1]}, [2][]impl.Member{lists[2], lists[0]})
	}
	return pairs
}

type memberAnswer struct {
	lists [][]impl.Member
	told  string
}

// memberAnswers asks all functions that take Members, of each Id that is right and of those next to them.
func memberAnswers(a, b []impl.Member) (all memberAnswer) {
	oks := []bool{impl.MembersOk(a), impl.MembersOk(b)}
	all.lists = append(all.lists, impl.Merged(a, b), impl.Merged(b, a))
	for id := int64(-1); id <= 8; id++ {
		for _, turn := range []func([]impl.Member, int64) ([]impl.Member, bool){impl.Doubted, impl.Dropped, impl.Back} {
			list, ok := turn(a, id)
			all.lists, oks = append(all.lists, list), append(oks, ok)
		}
	}
	if len(a) > 0 && len(b) > 0 {
		oks = append(oks, impl.Stronger(a[0], b[0]))
	}
	all.told = fmt.Sprint(oks)
	return all
}

func (a memberAnswer) clone() memberAnswer {
	lists := [][]impl.Member{}
	for _, list := range a.lists {
		lists = append(lists, slices.Clone(list))
	}
	return memberAnswer{lists, a.told}
}

func (a memberAnswer) same(b memberAnswer) bool {
	return slices.EqualFunc(a.lists, b.lists, sameMembers) && a.told == b.told
}

var scribbledMember = member(-9, -9, -9)

func (a memberAnswer) scribble() {
	for _, list := range a.lists {
		scribbleOn(list, scribbledMember)
	}
}

// Promise 21 of chapter 12: nothing is written into an argument or the room behind it, and no answer lies there.
func TestPromise21MemberArgumentsStay(t *testing.T) {
	mark := member(-7, -7, -7)
	for i, pair := range memberArguments() {
		for _, room := range []int{0, 1, 20} {
			a, allA := roomyOf(pair[0], room, mark)
			b, allB := roomyOf(pair[1], room, mark)
			beforeA, beforeB := slices.Clone(allA), slices.Clone(allB)
			got := memberAnswers(a, b)
			if !sameMembers(allA, beforeA) || !sameMembers(allB, beforeB) {
				t.Fatalf("pair %d with room for %d: something was written", i, room)
			}
			got.scribble()
			if !sameMembers(allA, beforeA) || !sameMembers(allB, beforeB) {
				t.Fatalf("pair %d with room for %d: an answer shares memory", i, room)
			}
		}
	}
}

// Promise 21: the same of arguments that are one slice, that lie one behind the other in one array, and that overlap.
func TestPromise21MemberArgumentsInOneArray(t *testing.T) {
	for i, pair := range memberArguments() {
		a, b := pair[0], pair[1]
		want, wantSame := memberAnswers(a, b).clone(), memberAnswers(a, a).clone()
		all := slices.Concat(a, b, slices.Repeat([]impl.Member{scribbledMember}, 9))
		before := slices.Clone(all)
		front, behind := all[:len(a)], all[len(a):len(a)+len(b)]
		both, same := memberAnswers(front, behind), memberAnswers(front, front)
		if !both.same(want) || !same.same(wantSame) || !sameMembers(all, before) {
			t.Fatalf("pair %d in one array: %v", i, both)
		}
		both.scribble()
		if !same.same(wantSame) || !sameMembers(all, before) {
			t.Fatalf("pair %d in one array: an answer shares memory", i)
		}
		same.scribble()
		if !sameMembers(all, before) {
			t.Fatalf("pair %d, one slice twice: an answer shares memory", i)
		}
	}
	list := manyMembers(0, 8)
	for from := range 9 {
		for to := range 9 {
			memberAnswers(list[:to], list[from:]).scribble()
			askMerged(t, list[:to], list[from:])
			askMerged(t, list[from:], list[:to])
		}
	}
	if !sameMembers(list, manyMembers(0, 8)) {
		t.Fatal("something was written into Members that two arguments share")
	}
}

// Promise 21: an argument that is written to later changes no answer.
func TestPromise21MemberAnswersStay(t *testing.T) {
	for i, pair := range memberArguments() {
		a, allA := roomyOf(pair[0], 3, impl.Member{})
		b, allB := roomyOf(pair[1], 3, impl.Member{})
		got := memberAnswers(a, b)
		want := got.clone()
		scribbleOn(allA, scribbledMember)
		scribbleOn(allB, scribbledMember)
		if !got.same(want) {
			t.Fatalf("pair %d: an answer shares memory", i)
		}
	}
}

// Promise 21: no two answers have anything in common, be they to the same, or one out of the other.
func TestPromise21MemberAnswersAreApart(t *testing.T) {
	for i, pair := range memberArguments() {
		first, second := memberAnswers(pair[0], pair[1]), memberAnswers(pair[0], pair[1])
		on := memberAnswers(first.lists[0], first.lists[1])
		want, wantOn := second.clone(), on.clone()
		for at, list := range first.lists {
			scribbleOn(list, scribbledMember)
			for later, other := range first.lists[at+1:] {
				if !sameMembers(other, want.lists[at+1+later]) {
					t.Fatalf("pair %d: lists %d and %d share memory", i, at, at+1+later)
				}
			}
		}
		if !second.same(want) || !on.same(wantOn) {
			t.Fatalf("pair %d: two answers share memory", i)
		}
		on.scribble()
		if !second.same(want) || !memberAnswers(pair[0], pair[1]).same(want) {
			t.Fatalf("pair %d: two answers share memory", i)
		}
	}
}

// Promise 21: what is appended to one answer is in no other.
func TestPromise21MemberTwoWaysOn(t *testing.T) {
	for bits := range 32 {
		list := membersOfIds(drawFrom(uint32(bits)), idsOf(bits))
		one, ok := impl.Back(list, 5)
		left, leftOk := impl.Back(one, 6)
		want := slices.Clone(left)
		right, rightOk := impl.Back(one, 7)
		merged := impl.Merged(one, []impl.Member{member(6, 3, 2)})
		if !ok || !leftOk || !rightOk || !sameMembers(left, want) || right[len(right)-1] != member(7, 0, 0) || merged[len(merged)-1] != member(6, 3, 2) {
			t.Fatalf("%v: %v, %v, %v", list, left, right, merged)
		}
	}
}

// Promise 21: the same arguments get the same answer again, whatever was asked in between.
func TestPromise21MemberAgain(t *testing.T) {
	pairs := memberArguments()
	first := []memberAnswer{}
	for _, pair := range pairs {
		first = append(first, memberAnswers(pair[0], pair[1]))
	}
	for i, pair := range slices.Backward(pairs) {
		if got := memberAnswers(pair[0], pair[1]); !got.same(first[i]) {
			t.Fatalf("pair %d: %v, then %v", i, first[i], got)
		}
	}
}
