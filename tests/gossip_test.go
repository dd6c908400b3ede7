package tests

import (
	"fmt"
	"maps"
	"math"
	"runtime"
	"slices"
	"strings"
	"sync"
	"testing"
	"time"

	"loop.example/g00307/impl"
)

// farPlaces are out of range in each group, the nearest and the farthest; one past the end of a group comes beside them.
var farPlaces = []int64{math.MinInt64, math.MinInt64 + 1, -1 << 32, -6, -2, -1, 6, 7, 1 << 32, 1<<32 + 1, math.MaxInt64 - 1, math.MaxInt64}

func replica(book []impl.Entry, members []impl.Member) impl.Replica {
	return impl.Replica{Book: book, Members: members}
}

// keysByWords are all different Keys, by a map, where the program merges.
func keysByWords(list []impl.Replica) map[string]int {
	keys := map[string]int{}
	for _, r := range list {
		for _, e := range r.Book {
			keys[e.Key]++
		}
	}
	return keys
}

func groupByWords(list []impl.Replica) bool {
	for _, r := range list {
		if !bookByWords(r.Book) || !membersByWords(r.Members) {
			return false
		}
	}
	return len(list) != 0 && len(list) < 7 && len(keysByWords(list)) < 81
}

func bothByWords(a, b impl.Replica) impl.Replica {
	book, _ := joinedByWords(a.Book, b.Book)
	return replica(book, mergedByWords(a.Members, b.Members))
}

func toldByWords(list []impl.Replica, from, to int64) ([]impl.Replica, bool) {
	if !groupByWords(list) {
		return nil, false
	}
	told := cloneGroup(list)
	last := int64(len(list) - 1)
	if min(from, to) < 0 || max(from, to) > last || from == to {
		return told, false
	}
	told[to] = bothByWords(list[from], list[to])
	return told, true
}

// aroundByWords goes in three ways one behind the other, as the chapter says it.
func aroundByWords(list []impl.Replica) []impl.Replica {
	last := int64(len(list) - 1)
	for i := int64(0); i < last; i++ {
		list, _ = toldByWords(list, i, i+1)
	}
	list, _ = toldByWords(list, last, 0)
	for i := int64(0); i < last; i++ {
		list, _ = toldByWords(list, i, i+1)
	}
	return list
}

// wholeByWords looks for each Key and each Id at all that is said of it, where the program goes from one Replica to the next.
func wholeByWords(list []impl.Replica) (whole impl.Replica) {
	if !groupByWords(list) {
		return whole
	}
	entries, members := map[string]impl.Entry{}, map[int64]impl.Member{}
	for _, r := range slices.Backward(list) {
		for _, e := range r.Book {
			if other, known := entries[e.Key]; !known || newerByWords(e, other) {
				entries[e.Key] = e
			}
		}
		for _, m := range r.Members {
			if other, known := members[m.Id]; !known || strongerByWords(m, other) {
				members[m.Id] = m
			}
		}
	}
	for _, key := range slices.Sorted(maps.Keys(entries)) {
		whole.Book = append(whole.Book, entries[key])
	}
	for _, id := range slices.Sorted(maps.Keys(members)) {
		whole.Members = append(whole.Members, members[id])
	}
	return whole
}

// agreedByWords holds any two against each other.
func agreedByWords(list []impl.Replica) bool {
	for _, a := range list {
		for _, b := range list {
			if !sameReplicas(a, b) {
				return false
			}
		}
	}
	return groupByWords(list)
}

func sameReplicas(a, b impl.Replica) bool {
	return sameBooks(a.Book, b.Book) && sameMembers(a.Members, b.Members)
}

func sameGroups(a, b []impl.Replica) bool { return slices.EqualFunc(a, b, sameReplicas) }

func cloneReplica(r impl.Replica) impl.Replica {
	return replica(slices.Clone(r.Book), slices.Clone(r.Members))
}

func cloneGroup(list []impl.Replica) []impl.Replica {
	clone := []impl.Replica{}
	for _, r := range list {
		clone = append(clone, cloneReplica(r))
	}
	return clone
}

// places are those of a group of n, those next to them, and the farthest.
func places(n int) []int64 {
	list := slices.Clone(farPlaces)
	for i := int64(-1); i <= int64(n)+1; i++ {
		list = append(list, i)
	}
	slices.Sort(list)
	return slices.Compact(list)
}

// A groupKind tells which Keys, and which Ids (by bits), the Replica at a place in a group of n has.
type groupKind struct {
	keys func(at, n int) []string
	ids  func(at, n int) int
}

func groupKinds(draw func(int) int) map[string]groupKind {
	someIds := func(int, int) int { return draw(256) }
	eachId := func(int, int) int { return 255 }
	return map[string]groupKind{
		"all in common":  {func(int, int) []string { return numbered(0, 6) }, eachId},
		"some in common": {func(int, int) []string { return drawnPart(draw, numbered(0, 9), 2) }, someIds},
		"none in common": {func(at, n int) []string { return numbered(at*13, 1+draw(13)) }, func(at, n int) int { return 1 << at }},
		"odd Keys":       {func(int, int) []string { return drawnPart(draw, oddKeys(), 3) }, someIds},
		"often empty":    {func(int, int) []string { return numbered(draw(5), 4*draw(2)) }, func(int, int) int { return draw(2) * draw(256) }},
		"80 in each":     {func(int, int) []string { return numbered(0, 80) }, eachId},
		"80 in all":      {func(at, n int) []string { return numbered(at*80/n, (at+1)*80/n-at*80/n) }, someIds},
		"far apart":      {func(int, int) []string { return numbered(draw(61), 20) }, func(int, int) int { return 1 << draw(8) }},
	}
}

// drawnGroups are of 1 to 6 Replicas of each kind, and some of them with one or more Replicas twice.
func drawnGroups() [][]impl.Replica {
	groups := [][]impl.Replica{}
	draw := drawFrom(13)
	kinds := groupKinds(draw)
	for _, what := range slices.Sorted(maps.Keys(kinds)) {
		for n := 1; n <= 6; n++ {
			for range 30 {
				group := []impl.Replica{}
				for at := range n {
					group = append(group, replica(bookOfKeys(draw, kinds[what].keys(at, n)), membersOfIds(draw, idsOf(kinds[what].ids(at, n)))))
				}
				if n > 1 && draw(5) == 0 {
					group[draw(n)] = cloneReplica(group[draw(n)])
				}
				groups = append(groups, group)
			}
		}
	}
	return groups
}

// someGroups are few, of each number and kind.
func someGroups() [][]impl.Replica {
	groups := [][]impl.Replica{{{}}, {{}, {}}, slices.Repeat([]impl.Replica{{}}, 6), {replica([]impl.Entry{}, nil), replica(nil, []impl.Member{})}}
	full := replica(manyEntries(80), manyMembers(0, 8))
	groups = append(groups, []impl.Replica{full}, []impl.Replica{{}, full}, []impl.Replica{full, {}, {}}, slices.Repeat([]impl.Replica{full}, 6))
	groups = append(groups, []impl.Replica{replica(manyEntries(80)[:40], manyMembers(0, 4)), replica(manyEntries(80)[40:], manyMembers(4, 4))})
	for i, group := range drawnGroups() {
		if i%30 == 0 {
			groups = append(groups, group)
		}
	}
	return groups
}

// noGroups are wrong in their number, in one Replica in each place, or in how many Keys there are.
func noGroups() map[string][]impl.Replica {
	right := replica([]impl.Entry{entry("a", "1", 5, 3), goneEntry("b", 5, 3)}, []impl.Member{member(1, 5, 0), member(6, 4, 2)})
	groups := map[string][]impl.Replica{
		"nil":                         nil,
		"none":                        {},
		"7":                           slices.Repeat([]impl.Replica{right}, 7),
		"7, all empty":                make([]impl.Replica, 7),
		"8":                           slices.Repeat([]impl.Replica{right}, 8),
		"100":                         slices.Repeat([]impl.Replica{{}}, 100),
		"two of 80 other Keys":        {replica(manyEntries(80), nil), replica(bookOfKeys(drawFrom(1), numbered(0, 80)), nil)},
		"81 Keys in all":              {replica(manyEntries(80), nil), replica([]impl.Entry{entry("a", "", 1, 0)}, nil)},
		"81 Keys in all, far apart":   {replica([]impl.Entry{entry("z", "", 1, 0)}, nil), {}, {}, {}, {}, replica(manyEntries(80), nil)},
		"81 Keys, 79 in common":       {replica(manyEntries(81)[1:], nil), replica(manyEntries(80), nil)},
		"81 in one Book":              {replica(manyEntries(81), nil)},
		"9 in one Members":            {replica(nil, manyMembers(0, 9))},
		"all with one that is wrong":  slices.Repeat([]impl.Replica{replica([]impl.Entry{{}}, nil)}, 3),
		"all with Members like those": slices.Repeat([]impl.Replica{replica(nil, manyMembers(8, 1))}, 3),
	}
	wrong := map[string]impl.Replica{}
	for what, book := range noBooks() {
		wrong["Book: "+what] = replica(book, right.Members)
	}
	for what, members := range noMembers() {
		wrong["Members: "+what] = replica(right.Book, members)
	}
	for what, r := range wrong {
		for _, n := range []int{1, 2, 3, 6} {
			for _, at := range []int{0, n / 2, n - 1} {
				group := slices.Repeat([]impl.Replica{right}, n)
				group[at] = r
				groups[fmt.Sprintf("%s, at %d of %d", what, at, n)] = group
			}
		}
	}
	return groups
}

func askIsNoGroup(t *testing.T, what string, list []impl.Replica) {
	t.Helper()
	if groupByWords(list) || impl.GroupOk(list) || impl.Agreed(list) {
		t.Fatalf("%s: GroupOk is %v, Agreed %v", what, impl.GroupOk(list), impl.Agreed(list))
	}
	for _, from := range []int64{math.MinInt64, -1, 0, 1, int64(len(list)) - 1, int64(len(list)), math.MaxInt64} {
		for _, to := range []int64{from, 0, 1, -1, int64(len(list)) - 1} {
			if got, ok := impl.Told(list, from, to); ok || len(got) > 0 {
				t.Fatalf("%s: Told from %d to %d is %.500v, %v", what, from, to, got, ok)
			}
		}
	}
	if got := impl.Around(list); len(got) > 0 {
		t.Fatalf("%s: Around is %.500v", what, got)
	}
	if got := impl.Whole(list); len(got.Book) > 0 || len(got.Members) > 0 {
		t.Fatalf("%s: Whole is %.500v", what, got)
	}
}

// knowsAll tells whether now knows all that was knew, or what is Newer or Stronger.
func knowsAll(now, was impl.Replica) bool {
	for _, e := range was.Book {
		if got, there := entryOf(now.Book, e.Key); !there || newerByWords(e, got) {
			return false
		}
	}
	for _, m := range was.Members {
		if got, there := memberOf(now.Members, m.Id); !there || strongerByWords(m, got) {
			return false
		}
	}
	return true
}

// askTold asks Told of a group, and answers what it is.
func askTold(t *testing.T, list []impl.Replica, from, to int64) []impl.Replica {
	t.Helper()
	want, wantOk := toldByWords(list, from, to)
	got, ok := impl.Told(list, from, to)
	if ok != wantOk || !sameGroups(got, want) {
		t.Fatalf("Told(%.500v, %d, %d) = %.500v, %v, not %.500v", list, from, to, got, ok, want)
	}
	if again, againOk := impl.Told(got, from, to); againOk != ok || !sameGroups(again, got) {
		t.Fatalf("Told(%.500v, %d, %d) = %.500v, and once more %.500v, %v", list, from, to, got, again, againOk)
	}
	for i, r := range got {
		switch {
		case !knowsAll(r, list[i]):
			t.Fatalf("Told(%.500v, %d, %d): %d knows less, %.500v", list, from, to, i, r)
		case int64(i) == to && ok && !knowsAll(r, list[from]):
			t.Fatalf("Told(%.500v, %d, %d): it was not told, %.500v", list, from, to, r)
		case int64(i) != to && !sameReplicas(r, list[i]):
			t.Fatalf("Told(%.500v, %d, %d) changes %d", list, from, to, i)
		}
	}
	if !impl.GroupOk(got) {
		t.Fatalf("Told(%.500v, %d, %d) is no group", list, from, to)
	}
	return got
}

// askAroundByTold goes by Told itself, in the order that the chapter names.
func askAroundByTold(t *testing.T, list []impl.Replica) {
	t.Helper()
	last := int64(len(list)) - 1
	now := list
	for i := range last {
		now = askTold(t, now, i, i+1)
	}
	now = askTold(t, now, last, 0)
	for i := range last {
		now = askTold(t, now, i, i+1)
	}
	if got := impl.Around(list); !sameGroups(got, now) {
		t.Fatalf("Around(%.500v) = %.500v, step by step %.500v", list, got, now)
	}
	if last == 0 && !sameGroups(now, list) {
		t.Fatalf("Around of one, %.500v, is %.500v", list, now)
	}
}

// askPromise13 is the promise, of one group.
func askPromise13(t *testing.T, list []impl.Replica) {
	t.Helper()
	if !groupByWords(list) || !impl.GroupOk(list) {
		t.Fatalf("%.500v is no group", list)
	}
	around, want := impl.Around(list), wholeByWords(list)
	if !sameGroups(around, aroundByWords(list)) || len(around) != len(list) {
		t.Fatalf("Around(%.500v) = %.500v", list, around)
	}
	if !impl.GroupOk(around) || !impl.Agreed(around) {
		t.Fatalf("Around(%.500v) = %.500v: GroupOk %v, Agreed %v", list, around, impl.GroupOk(around), impl.Agreed(around))
	}
	for i, r := range around {
		if !sameReplicas(r, want) {
			t.Fatalf("Around(%.500v): %d knows %.500v, not %.500v", list, i, r, want)
		}
	}
	for what, got := range map[string]impl.Replica{"it": impl.Whole(list), "what is Around": impl.Whole(around), "its Whole alone": impl.Whole([]impl.Replica{want})} {
		if !sameReplicas(got, want) {
			t.Fatalf("%.500v: Whole of %s is %.500v, not %.500v", list, what, got, want)
		}
	}
	if again := impl.Around(around); !sameGroups(again, around) {
		t.Fatalf("Around(%.500v) is %.500v, and once more %.500v", list, around, again)
	}
	if got := impl.Agreed(list); got != agreedByWords(list) {
		t.Fatalf("Agreed(%.500v) = %v", list, got)
	}
}

func TestGossipKnown(t *testing.T) {
	group := []impl.Replica{
		replica([]impl.Entry{entry("a", "1", 3, 0), entry("b", "2", 3, 0)}, []impl.Member{member(0, 2, 0)}),
		replica([]impl.Entry{goneEntry("b", 3, 1)}, []impl.Member{member(0, 1, 2), member(1, 0, 0)}),
		replica([]impl.Entry{entry("c", "3", 1, 2)}, nil),
	}
	told, ok := impl.Told(group, 0, 1)
	if want := replica([]impl.Entry{entry("a", "1", 3, 0), goneEntry("b", 3, 1)}, []impl.Member{member(0, 2, 0), member(1, 0, 0)}); !ok || !sameGroups(told, []impl.Replica{group[0], want, group[2]}) {
		t.Errorf("Told = %v, %v", told, ok)
	}
	whole := replica([]impl.Entry{entry("a", "1", 3, 0), goneEntry("b", 3, 1), entry("c", "3", 1, 2)}, []impl.Member{member(0, 2, 0), member(1, 0, 0)})
	if got := impl.Around(group); !sameGroups(got, []impl.Replica{whole, whole, whole}) || !impl.Agreed(got) {
		t.Errorf("Around = %v", got)
	}
	if got := impl.Whole(group); !sameReplicas(got, whole) {
		t.Errorf("Whole = %v", got)
	}
	if !impl.GroupOk(group) || impl.Agreed(group) || impl.Agreed(told) {
		t.Errorf("GroupOk %v, Agreed %v, then %v", impl.GroupOk(group), impl.Agreed(group), impl.Agreed(told))
	}
}

func TestGroupsOfEachNumber(t *testing.T) {
	full := replica(manyEntries(80), manyMembers(0, 8))
	for _, r := range []impl.Replica{{}, full, replica(manyEntries(1), nil), replica(nil, manyMembers(7, 1)), replica([]impl.Entry{}, []impl.Member{})} {
		for n := range 12 {
			group := slices.Repeat([]impl.Replica{r}, n)
			if n == 0 || n > 6 {
				askIsNoGroup(t, fmt.Sprint(n), group)
				continue
			}
			askPromise13(t, group)
			if !impl.Agreed(group) {
				t.Fatalf("%d that are equal are not Agreed", n)
			}
		}
	}
}

// askByWords asks of a list all that its being a group or not asks for.
func askByWords(t *testing.T, what string, list []impl.Replica) {
	t.Helper()
	if groupByWords(list) {
		askPromise13(t, list)
	} else {
		askIsNoGroup(t, what, list)
	}
}

// groupOfKeys has n Replicas with common Keys in each and so many others in all that there are all different ones.
func groupOfKeys(draw func(int) int, n, common, all int) []impl.Replica {
	group, own := []impl.Replica{}, all-common
	for at := range n {
		from, to := at*own/n, (at+1)*own/n
		keys := slices.Concat(numbered(0, common), numbered(common+from, to-from))
		group = append(group, replica(bookOfKeys(draw, keys), membersOfIds(draw, idsOf(draw(256)))))
	}
	return group
}

func TestGroupsByTheirKeysTogether(t *testing.T) {
	draw := drawFrom(4)
	for n := 1; n <= 6; n++ {
		for _, all := range []int{0, 1, 2, 6, 40, 78, 79, 80, 81, 82, 120, 160} {
			for _, common := range []int{0, 1, 2, 39, 40, 78, 79, 80} {
				if common > all {
					continue
				}
				group := groupOfKeys(draw, n, common, all)
				if len(keysByWords(group)) != all {
					t.Fatalf("%d Keys, not %d", len(keysByWords(group)), all)
				}
				what := fmt.Sprintf("%d with %d Keys, %d in common", n, all, common)
				if got := impl.GroupOk(group); got != (all <= 80) {
					t.Fatalf("%s: GroupOk is %v", what, got)
				}
				askByWords(t, what, group)
			}
		}
	}
}

// Each has as many Keys as a Book may have, or one less; the one that another has is too many or just has room, whichever place it stands in.
func TestGroupsWithOneKeyTooMany(t *testing.T) {
	full := manyEntries(80)
	for _, key := range []string{"\x00", full[0].Key[:39], full[40].Key[:39] + "\xff", "z"} {
		for n := 2; n <= 6; n++ {
			for at := range n {
				for _, left := range []int{79, 80} {
					group := slices.Repeat([]impl.Replica{replica(full[:left], nil)}, n)
					group[at] = replica([]impl.Entry{entry(key, "", 1, 0)}, nil)
					if got := impl.GroupOk(group); got != (left == 79) {
						t.Fatalf("%d in each, %q at %d of %d: GroupOk is %v", left, key, at, n, got)
					}
					askByWords(t, key, group)
				}
			}
		}
	}
}

func TestNoGroup(t *testing.T) {
	for what, list := range noGroups() {
		askIsNoGroup(t, what, list)
	}
}

// What is not right is not right in a Replica that has all else in common with the others.
func TestNoGroupByOneThing(t *testing.T) {
	right := replica(manyEntries(80), manyMembers(0, 8))
	for n := 1; n <= 6; n++ {
		for at := range n {
			for i, wrong := range []impl.Replica{
				replica(manyEntries(81), right.Members),
				replica(append(manyEntries(79), entry("a", "", 1, 0)), right.Members),
				replica(append(manyEntries(79), manyEntries(79)[78]), right.Members),
				replica(append(manyEntries(79), entry("z", "", 0, 0)), right.Members),
				replica(right.Book, manyMembers(0, 9)),
				replica(right.Book, append(manyMembers(0, 7), member(6, 5, 0))),
				replica(right.Book, append(manyMembers(0, 7), member(7, 1000001, 0))),
				replica(right.Book, append(manyMembers(0, 7), member(7, 0, 3))),
			} {
				group := slices.Repeat([]impl.Replica{right}, n)
				group[at] = wrong
				askIsNoGroup(t, fmt.Sprintf("wrong one %d at %d of %d", i, at, n), group)
			}
		}
	}
}

// Each place tells each other one, and those that are out of range none.
func TestToldFromAndToAnyPlace(t *testing.T) {
	done, not := 0, 0
	for _, group := range someGroups() {
		n := int64(len(group))
		for _, from := range places(len(group)) {
			for _, to := range places(len(group)) {
				got := askTold(t, group, from, to)
				_, ok := impl.Told(group, from, to)
				if in := from >= 0 && from < n && to >= 0 && to < n && from != to; ok != in {
					t.Fatalf("Told of %d from %d to %d is %v", n, from, to, ok)
				}
				if ok {
					done++
				} else if not++; !sameGroups(got, group) {
					t.Fatalf("Told of %d from %d to %d is not as it is", n, from, to)
				}
			}
		}
	}
	if done < 500 || not < 5000 {
		t.Fatalf("%d were told, %d not", done, not)
	}
}

func TestPromise13DrawnGroups(t *testing.T) {
	for _, group := range drawnGroups() {
		askPromise13(t, group)
	}
}

func TestPromise13AroundIsToldStepByStep(t *testing.T) {
	for _, group := range slices.Concat(someGroups(), drawnGroups()) {
		askAroundByTold(t, group)
	}
}

func commonIds(a, b []impl.Member) int {
	n := 0
	for _, m := range a {
		if _, there := memberOf(b, m.Id); there {
			n++
		}
	}
	return n
}

func commonKeys(a, b []impl.Entry) int {
	n := 0
	for _, e := range a {
		if _, there := entryOf(b, e.Key); there {
			n++
		}
	}
	return n
}

// The drawn groups have all that promise 13 is to be asked of.
func TestDrawnGroupsAreOfAllKinds(t *testing.T) {
	counts := map[string]int{}
	for _, group := range drawnGroups() {
		counts[fmt.Sprint(len(group))]++
		if len(keysByWords(group)) == 80 {
			counts["80"]++
		}
		for i, a := range group {
			if len(a.Book) == 0 && len(group) > 1 {
				counts["empty Book"]++
			}
			if len(a.Members) == 0 && len(group) > 1 {
				counts["empty Members"]++
			}
			for _, b := range group[:i] {
				countCommon(counts, a, b)
			}
		}
	}
	for _, what := range []string{"1", "2", "3", "4", "5", "6", "80", "empty Book", "empty Members", "no Keys", "some Keys", "all Keys", "no Ids", "some Ids", "all Ids", "Time", "Node", "Gone", "Value", "Turn", "State", "all"} {
		if counts[what] < 50 {
			t.Errorf("%d of %s", counts[what], what)
		}
	}
}

func countCommon(counts map[string]int, a, b impl.Replica) {
	count := func(what string, n, of int) {
		switch {
		case of == 0:
		case n == 0:
			counts["no "+what]++
		case n < of:
			counts["some "+what]++
		default:
			counts["all "+what]++
		}
	}
	count("Keys", commonKeys(a.Book, b.Book), min(len(a.Book), len(b.Book)))
	count("Ids", commonIds(a.Members, b.Members), min(len(a.Members), len(b.Members)))
	for _, e := range a.Book {
		if other, there := entryOf(b.Book, e.Key); there && e != other {
			counts[onlyOne(e, other)]++
		}
	}
	for _, m := range a.Members {
		other, there := memberOf(b.Members, m.Id)
		if there && m.Turn != other.Turn && m.State == other.State {
			counts["Turn"]++
		}
		if there && m.Turn == other.Turn && m.State != other.State {
			counts["State"]++
		}
	}
	if sameReplicas(a, b) {
		counts["all"]++
	}
}

// Promise 13: Whole is the same in whatever order the Replicas stand.
func TestPromise13WholeInEachOrder(t *testing.T) {
	for i, group := range someGroups() {
		want, orders := wholeByWords(group), eachOrder(group)
		for _, list := range orders {
			if got := impl.Whole(list); !sameReplicas(got, want) {
				t.Fatalf("group %d in another order, %.500v: %.500v, not %.500v", i, list, got, want)
			}
		}
		if len(orders) != []int{1, 1, 2, 6, 24, 120, 720}[len(group)] {
			t.Fatalf("%d orders of %d", len(orders), len(group))
		}
	}
}

// Promise 13: and however often one stands there; what is left out can change it, but no more than it says.
func TestPromise13WholeHoweverOften(t *testing.T) {
	draw := drawFrom(21)
	for _, group := range drawnGroups() {
		want := wholeByWords(group)
		for range 3 {
			list := slices.Clone(group)
			for len(list) < 6 && draw(4) > 0 {
				list = slices.Insert(list, draw(len(list)+1), group[draw(len(group))])
			}
			if got := impl.Whole(list); !sameReplicas(got, want) {
				t.Fatalf("%.500v: %.500v, not %.500v", list, got, want)
			}
			if got := impl.Around(list); !sameGroups(got, slices.Repeat([]impl.Replica{want}, len(list))) {
				t.Fatalf("Around(%.500v) = %.500v", list, got)
			}
		}
		cut := 1 + draw(len(group))
		if front := impl.Whole(group[:cut]); cut < len(group) {
			behind := impl.Whole(group[cut:])
			if got := impl.Whole([]impl.Replica{behind, front}); !sameReplicas(got, want) {
				t.Fatalf("%.500v by parts: %.500v, not %.500v", group, got, want)
			}
		}
	}
}

// Promise 13: they tell one another as it comes, any number of times: Whole stays, nobody knows less, and when each heard of each, all are Agreed.
func TestPromise13ToldInAnyOrder(t *testing.T) {
	draw := drawFrom(22)
	for i, group := range drawnGroups() {
		if i%4 > 0 {
			continue
		}
		want, now, n := wholeByWords(group), group, len(group)
		heard := make([]int, n)
		for at := range heard {
			heard[at] = 1 << at
		}
		for steps := 0; slices.Min(heard) < 1<<n-1; steps++ {
			from, to := draw(n), draw(n)
			now = askTold(t, now, int64(from), int64(to))
			heard[to] |= heard[from]
			if got := impl.Whole(now); !sameReplicas(got, want) || steps > 10000 {
				t.Fatalf("group %d, %d steps on: Whole is %.500v, not %.500v", i, steps, got, want)
			}
		}
		if !impl.Agreed(now) || !sameGroups(now, slices.Repeat([]impl.Replica{want}, n)) {
			t.Fatalf("group %d: in the end %.500v", i, now)
		}
	}
}

// onceChanged are Replicas that differ from r, of three Entries and three Members, in one thing alone.
func onceChanged(r impl.Replica) map[string]impl.Replica {
	list := map[string]impl.Replica{}
	for at := range r.Book {
		for what, change := range map[string]func(*impl.Entry){
			"Key":   func(e *impl.Entry) { e.Key += "\x00" },
			"Value": func(e *impl.Entry) { e.Value += "\x00" },
			"Time":  func(e *impl.Entry) { e.Time++ },
			"Node":  func(e *impl.Entry) { e.Node++ },
			"Gone":  func(e *impl.Entry) { e.Gone = true },
		} {
			other := cloneReplica(r)
			change(&other.Book[at])
			list[fmt.Sprintf("%s of Entry %d", what, at)] = other
		}
		list[fmt.Sprintf("without Entry %d", at)] = replica(slices.Delete(slices.Clone(r.Book), at, at+1), r.Members)
		more := entry(r.Book[at].Key+"+", "", 1, 0)
		list[fmt.Sprintf("one more behind Entry %d", at)] = replica(slices.Insert(slices.Clone(r.Book), at+1, more), r.Members)
	}
	list["one more ahead of all"] = replica(slices.Insert(slices.Clone(r.Book), 0, entry("\x00", "", 1, 0)), r.Members)
	for at := range r.Members {
		for what, change := range map[string]func(*impl.Member){
			"Id":    func(m *impl.Member) { m.Id++ },
			"Turn":  func(m *impl.Member) { m.Turn++ },
			"State": func(m *impl.Member) { m.State++ },
		} {
			other := cloneReplica(r)
			change(&other.Members[at])
			list[fmt.Sprintf("%s of Member %d", what, at)] = other
		}
		list[fmt.Sprintf("without Member %d", at)] = replica(r.Book, slices.Delete(slices.Clone(r.Members), at, at+1))
		more := member(r.Members[at].Id+1, 0, 0)
		list[fmt.Sprintf("one more behind Member %d", at)] = replica(r.Book, slices.Insert(slices.Clone(r.Members), at+1, more))
	}
	list["one more Member ahead of all"] = replica(r.Book, slices.Insert(slices.Clone(r.Members), 0, member(0, 0, 0)))
	list["no Book"] = replica(nil, r.Members)
	list["no Members"] = replica(r.Book, nil)
	list["nothing"] = impl.Replica{}
	return list
}

func TestAgreedOfWhatDiffersInOneThing(t *testing.T) {
	r := replica([]impl.Entry{entry("a", "", 3, 2), entry("k", "", 3, 2), entry("z", "", 3, 2)}, []impl.Member{member(1, 5, 0), member(3, 5, 1), member(6, 5, 0)})
	for what, other := range onceChanged(r) {
		for n := 1; n <= 6; n++ {
			for at := range n {
				for _, pair := range [][2]impl.Replica{{r, other}, {other, r}} {
					group := slices.Repeat(pair[:1], n)
					group[at] = pair[1]
					if got := impl.Agreed(group); got != (n == 1) || !impl.GroupOk(group) {
						t.Fatalf("%s, at %d of %d: Agreed is %v", what, at, n, got)
					}
					askPromise13(t, group)
					if !impl.Agreed(impl.Around(group)) {
						t.Fatalf("%s, at %d of %d: not Agreed in the end", what, at, n)
					}
				}
			}
		}
	}
}

// What is equal need not be one in memory, and no list is an empty one.
func TestAgreedOfWhatIsEqual(t *testing.T) {
	empty := []impl.Replica{{}, replica([]impl.Entry{}, nil), replica(nil, []impl.Member{}), replica([]impl.Entry{}, []impl.Member{}), replica(make([]impl.Entry, 0, 5), make([]impl.Member, 0, 5)), replica(manyEntries(3)[:0], manyMembers(0, 3)[:0])}
	for _, list := range eachOrder(empty) {
		for n := 1; n <= 6; n++ {
			if !impl.Agreed(list[:n]) || !impl.GroupOk(list[:n]) {
				t.Fatalf("%v are not Agreed", list[:n])
			}
		}
	}
	askPromise13(t, empty)
	for _, group := range someGroups() {
		for n := 1; n <= 6; n++ {
			same := []impl.Replica{}
			for range n {
				one := cloneReplica(group[0])
				for i := range one.Book {
					one.Book[i].Key, one.Book[i].Value = strings.Clone(one.Book[i].Key), strings.Clone(one.Book[i].Value)
				}
				same = append(same, one)
			}
			if !impl.Agreed(same) {
				t.Fatalf("%.500v are not Agreed", same)
			}
		}
	}
}

// gossipArguments are groups and what is none, some of them with one Book or Members in two Replicas.
func gossipArguments() [][]impl.Replica {
	lists := someGroups()
	for _, group := range someGroups() {
		if n := len(group); n < 6 {
			mixed := replica(group[0].Book, group[n-1].Members)
			lists = append(lists, append(slices.Clone(group), mixed), append([]impl.Replica{group[n-1]}, group...))
		}
	}
	wrong := noGroups()
	for i, what := range slices.Sorted(maps.Keys(wrong)) {
		if i%97 == 0 || len(wrong[what]) == 0 || len(wrong[what]) > 6 {
			lists = append(lists, wrong[what])
		}
	}
	return lists
}

// A layout is a list and all the arrays that it lies in, from end to end.
type layout struct {
	list    []impl.Replica
	all     []impl.Replica
	books   [][]impl.Entry
	members [][]impl.Member
}

var (
	roomEntry   = entry("room", "room", -7, -7)
	roomMember  = member(-7, -7, -7)
	roomReplica = replica([]impl.Entry{roomEntry}, []impl.Member{roomMember})
)

// laidApart has an array for each Book and Members, each with that much room behind it.
func laidApart(list []impl.Replica, room int) (l layout) {
	for _, r := range list {
		book, allBook := roomyOf(r.Book, room, roomEntry)
		members, allMembers := roomyOf(r.Members, room, roomMember)
		l.all = append(l.all, replica(book, members))
		l.books, l.members = append(l.books, allBook), append(l.members, allMembers)
	}
	l.list, l.all = roomyOf(l.all, room, roomReplica)
	return l
}

// laidInOneArray has all Books one behind the other, and all Members: the room behind one is the next one.
func laidInOneArray(list []impl.Replica, room int) (l layout) {
	books, members := []impl.Entry{}, []impl.Member{}
	for _, r := range list {
		books, members = append(books, r.Book...), append(members, r.Members...)
	}
	_, books = roomyOf(books, room, roomEntry)
	_, members = roomyOf(members, room, roomMember)
	l.books, l.members = [][]impl.Entry{books}, [][]impl.Member{members}
	for _, r := range list {
		l.all = append(l.all, replica(books[:len(r.Book)], members[:len(r.Members)]))
		books, members = books[len(r.Book):], members[len(r.Members):]
	}
	l.list, l.all = roomyOf(l.all, room, roomReplica)
	return l
}

// laidShared has one array for all Books that are equal, and for all Members that are.
func laidShared(list []impl.Replica, room int) layout {
	l := laidApart(list, room)
	for i := range l.list {
		for _, earlier := range l.list[:i] {
			if sameBooks(earlier.Book, l.list[i].Book) {
				l.list[i].Book = earlier.Book
			}
			if sameMembers(earlier.Members, l.list[i].Members) {
				l.list[i].Members = earlier.Members
			}
		}
	}
	return l
}

func layouts(list []impl.Replica) []layout {
	all := []layout{}
	for _, room := range []int{0, 1, 90} {
		all = append(all, laidApart(list, room), laidInOneArray(list, room), laidShared(list, room))
	}
	return all
}

// heads tell where the lists of the Replicas lie, as a list that is replaced by an equal one is written to, too.
func (l layout) heads() string {
	text := ""
	for _, r := range l.all {
		text += fmt.Sprintf("%p %d %d %p %d %d\n", r.Book, len(r.Book), cap(r.Book), r.Members, len(r.Members), cap(r.Members))
	}
	return text
}

// watched is asked later whether all arrays are as they are now.
func (l layout) watched() func() bool {
	heads, all := l.heads(), cloneGroup(l.all)
	books, members := [][]impl.Entry{}, [][]impl.Member{}
	for i := range l.books {
		books, members = append(books, slices.Clone(l.books[i])), append(members, slices.Clone(l.members[i]))
	}
	return func() bool {
		lists := slices.EqualFunc(l.books, books, sameBooks) && slices.EqualFunc(l.members, members, sameMembers)
		return lists && l.heads() == heads && sameGroups(l.all, all)
	}
}

// scribble writes into all arrays.
func (l layout) scribble() {
	for i := range l.books {
		scribbleOn(l.books[i], scribbled)
		scribbleOn(l.members[i], scribbledMember)
	}
	scribbleOn(l.all, replica([]impl.Entry{scribbled}, nil))
}

type gossipAnswer struct {
	groups [][]impl.Replica
	whole  impl.Replica
	told   string
}

// gossipAnswers asks all functions of the chapter, Told of each place and of those next to them.
func gossipAnswers(list []impl.Replica) (g gossipAnswer) {
	oks := []bool{impl.GroupOk(list), impl.Agreed(list)}
	last := min(int64(len(list)), 7)
	for from := int64(-1); from <= last; from++ {
		for to := int64(-1); to <= last; to++ {
			told, ok := impl.Told(list, from, to)
			g.groups, oks = append(g.groups, told), append(oks, ok)
		}
	}
	g.groups, g.whole = append(g.groups, impl.Around(list)), impl.Whole(list)
	g.told = fmt.Sprint(oks)
	return g
}

func (g gossipAnswer) clone() gossipAnswer {
	groups := [][]impl.Replica{}
	for _, group := range g.groups {
		groups = append(groups, cloneGroup(group))
	}
	return gossipAnswer{groups, cloneReplica(g.whole), g.told}
}

func (g gossipAnswer) same(h gossipAnswer) bool {
	return slices.EqualFunc(g.groups, h.groups, sameGroups) && sameReplicas(g.whole, h.whole) && g.told == h.told
}

func scribbleOnReplica(r impl.Replica) {
	scribbleOn(r.Book, scribbled)
	scribbleOn(r.Members, scribbledMember)
}

func (g gossipAnswer) scribble() {
	for _, group := range g.groups {
		for _, r := range group {
			scribbleOnReplica(r)
		}
		scribbleOn(group, replica([]impl.Entry{scribbled}, nil))
	}
	scribbleOnReplica(g.whole)
}

// Promise 21 of chapter 13: nothing is written into an argument or the room behind it, and no answer lies there, however it lies in memory.
func TestPromise21GossipArgumentsStay(t *testing.T) {
	for i, list := range gossipArguments() {
		want := gossipAnswers(cloneGroup(list))
		for way, l := range layouts(list) {
			same := l.watched()
			got := gossipAnswers(l.list)
			if !same() {
				t.Fatalf("list %d, layout %d: something was written", i, way)
			}
			if !got.same(want) {
				t.Fatalf("list %d, layout %d: %.500v, not %.500v", i, way, got, want)
			}
			got.scribble()
			if !same() {
				t.Fatalf("list %d, layout %d: an answer shares memory", i, way)
			}
		}
	}
}

// Promise 21: Books and Members that overlap, of which the ends of some lie in the middle of others.
func TestPromise21GossipArgumentsThatOverlap(t *testing.T) {
	book, members := manyEntries(80), manyMembers(0, 8)
	for from := range 8 {
		list := []impl.Replica{}
		for n := range 6 {
			list = append(list, replica(book[from*n:80-10*(5-n)], members[min(from, n):3+n]))
		}
		askPromise13(t, list)
		gossipAnswers(list).scribble()
		if !sameBooks(book, manyEntries(80)) || !sameMembers(members, manyMembers(0, 8)) {
			t.Fatal("something was written into what Replicas share")
		}
	}
}

// Promise 21: an argument that is written to later changes no answer.
func TestPromise21GossipAnswersStay(t *testing.T) {
	for i, list := range gossipArguments() {
		for way, l := range layouts(list) {
			got := gossipAnswers(l.list)
			want := got.clone()
			l.scribble()
			if !got.same(want) {
				t.Fatalf("list %d, layout %d: an answer shares memory", i, way)
			}
		}
	}
}

// askListsAreApart writes into each list of one answer, with the room behind it, and wants all others to be as they were.
func askListsAreApart(t *testing.T, group []impl.Replica) {
	t.Helper()
	want := cloneGroup(group)
	ask := func(what string, i int) {
		t.Helper()
		if !sameGroups(group, want) {
			t.Fatalf("%s of %d shares memory with another list", what, i)
		}
	}
	for i, r := range group {
		scribbleOn(r.Book, scribbled)
		copy(want[i].Book, slices.Repeat([]impl.Entry{scribbled}, len(r.Book)))
		ask("Book", i)
		scribbleOn(r.Members, scribbledMember)
		copy(want[i].Members, slices.Repeat([]impl.Member{scribbledMember}, len(r.Members)))
		ask("Members", i)
	}
}

// Promise 21: no two lists of one answer share any, also where the argument has one list twice.
func TestPromise21GossipListsOfOneAnswerAreApart(t *testing.T) {
	for _, list := range gossipArguments() {
		for _, l := range layouts(list) {
			got := gossipAnswers(l.list)
			for _, group := range got.groups {
				askListsAreApart(t, group)
			}
			askListsAreApart(t, []impl.Replica{got.whole})
		}
	}
}

// Promise 21: no two answers have anything in common, be they to the same, or one out of the other.
func TestPromise21GossipAnswersAreApart(t *testing.T) {
	for i, list := range gossipArguments() {
		first, second := gossipAnswers(list), gossipAnswers(list)
		want := second.clone()
		on := gossipAnswers(first.groups[len(first.groups)-1])
		wantOn := on.clone()
		for at, group := range first.groups {
			for _, r := range group {
				scribbleOnReplica(r)
			}
			for later := at + 1; later < len(first.groups); later++ {
				if !sameGroups(first.groups[later], want.groups[later]) {
					t.Fatalf("list %d: answers %d and %d share memory", i, at, later)
				}
			}
		}
		if !sameReplicas(first.whole, want.whole) {
			t.Fatalf("list %d: Whole shares memory with another answer", i)
		}
		first.scribble()
		if !second.same(want) || !on.same(wantOn) {
			t.Fatalf("list %d: two answers share memory", i)
		}
		on.scribble()
		if !second.same(want) || !gossipAnswers(list).same(want) {
			t.Fatalf("list %d: two answers share memory", i)
		}
	}
}

// Promise 21: one answer is gone on from in two ways, and neither shows in the other.
func TestPromise21GossipTwoWaysOn(t *testing.T) {
	for _, group := range someGroups() {
		if len(group) < 3 {
			continue
		}
		one, _ := impl.Told(group, 0, 1)
		left, _ := impl.Told(one, 1, 2)
		want := cloneGroup(left)
		right, _ := impl.Told(one, 1, 0)
		wantRight := cloneGroup(right)
		impl.Around(one)
		again, _ := impl.Told(one, 1, 2)
		if !sameGroups(left, want) || !sameGroups(right, wantRight) || !sameGroups(again, want) {
			t.Fatalf("%.500v: %.500v, %.500v", group, left, right)
		}
	}
}

// Promise 21: the same arguments get the same answer again, whatever was asked in between.
func TestPromise21GossipAgain(t *testing.T) {
	lists := gossipArguments()
	first := []gossipAnswer{}
	for _, list := range lists {
		first = append(first, gossipAnswers(list))
	}
	for i, list := range slices.Backward(lists) {
		if got := gossipAnswers(list); !got.same(first[i]) {
			t.Fatalf("list %d: %.500v, then %.500v", i, first[i], got)
		}
	}
}

// Promise 21: Whole of one group, and of many, by many at the same time; .ci/run asks this under the race detector, too.
func TestAtTheSameTimeWhole(t *testing.T) {
	lists := gossipArguments()
	want := []impl.Replica{}
	for _, list := range lists {
		want = append(want, wholeByWords(list))
	}
	var all sync.WaitGroup
	for first := range 16 {
		all.Go(func() {
			for i := range lists {
				at := (i + first/2*7) % len(lists)
				got := impl.Whole(lists[at])
				if !sameReplicas(got, want[at]) {
					t.Errorf("list %d: Whole is another one at the same time", at)
				}
				scribbleOnReplica(got)
			}
		})
	}
	all.Wait()
}

// Promise 21: the other functions beside it, of lists that share all that they can.
func TestAtTheSameTimeAllOfGossip(t *testing.T) {
	for i, list := range gossipArguments() {
		if i%4 > 0 {
			continue
		}
		l := laidShared(list, 3)
		want := gossipAnswers(cloneGroup(list))
		var all sync.WaitGroup
		for range 4 {
			all.Go(func() {
				got := gossipAnswers(l.list)
				if !got.same(want) {
					t.Errorf("list %d: the answers are others at the same time", i)
				}
				got.scribble()
			})
		}
		all.Wait()
	}
}

// None that Whole asks is left when it has answered.
func TestWholeLeavesNobodyBehind(t *testing.T) {
	lists := gossipArguments()
	before := runtime.NumGoroutine()
	for _, list := range lists {
		for range 5 {
			impl.Whole(list)
		}
	}
	for wait := 0; runtime.NumGoroutine() > before; wait++ {
		if wait == 500 {
			t.Fatalf("%d were there, now %d are", before, runtime.NumGoroutine())
		}
		time.Sleep(10 * time.Millisecond)
	}
}
