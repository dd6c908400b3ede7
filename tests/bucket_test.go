package tests

import (
	"fmt"
	"maps"
	"math"
	"slices"
	"testing"

	"loop.example/g00307/impl"
)

// The constant has no kind of its own, so that it goes with any number.
const _ float64 = impl.MaxLeft

// noSources and noLefts are wrong on either side, the nearest and the farthest.
var (
	noSources = []int64{math.MinInt64, math.MinInt64 + 1, -100, -99, -2, -1, 100, 101, 199, 256, 1<<32 + 3, math.MaxInt64 - 1, math.MaxInt64}
	noLefts   = []int64{math.MinInt64, math.MinInt64 + 1, -6, -5, -2, -1, 6, 7, 10, 256, 1<<32 + 2, math.MaxInt64 - 1, math.MaxInt64}
)

var edgeSources = []int64{0, 1, 50, 98, 99}

func bucket(source, left, at int64) impl.Bucket {
	return impl.Bucket{Source: source, Left: left, At: at}
}

func bucketByWords(b impl.Bucket) bool {
	return b.Source > -1 && b.Source < 100 && b.Left > -1 && b.Left < 6 && timeByWords(b.At)
}

// bucketsByWords holds any two Sources against each other, where the program takes neighbours.
func bucketsByWords(list []impl.Bucket) bool {
	for i, b := range list {
		if !bucketByWords(b) {
			return false
		}
		for _, later := range list[i+1:] {
			if b.Source >= later.Source {
				return false
			}
		}
	}
	return len(list) < 21
}

func bucketOf(list []impl.Bucket, source int64) (impl.Bucket, bool) {
	for _, b := range list {
		if b.Source == source {
			return b, true
		}
	}
	return impl.Bucket{}, false
}

func withoutSource(list []impl.Bucket, source int64) []impl.Bucket {
	return slices.DeleteFunc(slices.Clone(list), func(b impl.Bucket) bool { return b.Source == source })
}

func sameBuckets(a, b []impl.Bucket) bool { return slices.Equal(a, b) }

// leftByWords lets one come after the other, tick by tick, where the program takes the ticks at once.
func leftByWords(list []impl.Bucket, source, now int64) int64 {
	if !bucketsByWords(list) || source < 0 || source > 99 || !timeByWords(now) {
		return -1
	}
	b, there := bucketOf(list, source)
	if !there {
		return 5
	}
	if b.At > now {
		return -1
	}
	left := b.Left
	for tick := b.At; tick < now && left < 5; tick++ {
		left++
	}
	return left
}

// drawnByWords lays each in its place of a hundred and takes them up again, where the program looks for one place.
func drawnByWords(list []impl.Bucket, source, now int64) ([]impl.Bucket, bool) {
	if !bucketsByWords(list) {
		return nil, false
	}
	left := leftByWords(list, source, now)
	_, there := bucketOf(list, source)
	if left <= 0 || !there && len(list) == 20 {
		return slices.Clone(list), false
	}
	places := map[int64]impl.Bucket{}
	for _, b := range list {
		places[b.Source] = b
	}
	places[source] = bucket(source, left-1, now)
	all := []impl.Bucket{}
	for _, at := range slices.Sorted(maps.Keys(places)) {
		all = append(all, places[at])
	}
	return all, true
}

// manyBuckets are n that are right but for their number, each of every third Source.
func manyBuckets(n int) []impl.Bucket {
	list := []impl.Bucket{}
	for i := range int64(n) {
		list = append(list, bucket(3*i+2, i%6, 10+i%4))
	}
	return list
}

// bucketsOfSources have drawn Lefts, and Ats from this one on.
func bucketsOfSources(draw func(int) int, sources []int64, from, ticks int64) []impl.Bucket {
	sorted := slices.Sorted(slices.Values(sources))
	list := []impl.Bucket{}
	for _, source := range slices.Compact(sorted) {
		list = append(list, bucket(source, int64(draw(6)), from+int64(draw(int(ticks)))))
	}
	return list
}

func drawnSources(draw func(int) int, n, below int) []int64 {
	sources := []int64{}
	for range n {
		sources = append(sources, int64(draw(below)))
	}
	return sources
}

// eachSource are those from this one to that one.
func eachSource(from, to int64) []int64 {
	sources := []int64{}
	for source := from; source <= to; source++ {
		sources = append(sources, source)
	}
	return sources
}

// bucketKinds draw right Buckets; those of each kind have their own Sources and Ats.
func bucketKinds(draw func(int) int) map[string]func() []impl.Bucket {
	return map[string]func() []impl.Bucket{
		"none":         func() []impl.Bucket { return nil },
		"few":          func() []impl.Bucket { return bucketsOfSources(draw, drawnSources(draw, draw(5), 8), 0, 9) },
		"some":         func() []impl.Bucket { return bucketsOfSources(draw, drawnSources(draw, draw(20), 100), 100, 12) },
		"19":           func() []impl.Bucket { return bucketsOfSources(draw, eachSource(1, 19), 50, 8) },
		"20":           func() []impl.Bucket { return bucketsOfSources(draw, eachSource(0, 19), 50, 8) },
		"20, the last": func() []impl.Bucket { return bucketsOfSources(draw, eachSource(80, 99), 50, 8) },
		"at the end":   func() []impl.Bucket { return bucketsOfSources(draw, drawnSources(draw, 4, 6), impl.MaxTime-8, 9) },
		"far apart":    func() []impl.Bucket { return bucketsOfSources(draw, drawnSources(draw, 6, 9), 0, impl.MaxTime+1) },
	}
}

func drawnBuckets() map[string][][]impl.Bucket {
	draw := drawFrom(15)
	kinds := bucketKinds(draw)
	lists := map[string][][]impl.Bucket{}
	for _, what := range slices.Sorted(maps.Keys(kinds)) {
		for range 40 {
			lists[what] = append(lists[what], kinds[what]())
		}
	}
	return lists
}

func allDrawnBuckets() [][]impl.Bucket {
	byKind := drawnBuckets()
	lists := [][]impl.Bucket{}
	for _, what := range slices.Sorted(maps.Keys(byKind)) {
		lists = append(lists, byKind[what]...)
	}
	return lists
}

// edgeBuckets are right, at the edges of the chapter.
func edgeBuckets() [][]impl.Bucket {
	lists := [][]impl.Bucket{
		nil, {}, manyBuckets(1), manyBuckets(19), manyBuckets(20),
		{bucket(0, 0, 0)}, {bucket(99, 5, impl.MaxTime)}, {bucket(0, 5, impl.MaxTime), bucket(99, 0, 0)},
		{bucket(0, 1, 7), bucket(1, 4, 7), bucket(2, 0, 8)}, {bucket(97, 3, 1), bucket(98, 2, 2), bucket(99, 1, 3)},
		{bucket(3, 0, 10)}, {bucket(3, 0, impl.MaxTime)}, {bucket(3, 0, impl.MaxTime-1)}, {bucket(3, 4, impl.MaxTime-1), bucket(4, 5, 0)},
	}
	all := []impl.Bucket{}
	for _, source := range eachSource(0, 19) {
		all = append(all, bucket(source, 0, impl.MaxTime))
	}
	last := []impl.Bucket{}
	for _, source := range eachSource(80, 99) {
		last = append(last, bucket(source, 5, 0))
	}
	return append(lists, all, last)
}

func someBuckets() [][]impl.Bucket {
	lists := edgeBuckets()
	for i, list := range allDrawnBuckets() {
		if i%8 == 0 {
			lists = append(lists, list)
		}
	}
	return lists
}

// wrongBuckets are each wrong in one place, or in more.
func wrongBuckets() []impl.Bucket {
	list := []impl.Bucket{}
	for _, source := range noSources {
		list = append(list, bucket(source, 0, 0), bucket(source, 5, 12))
	}
	for _, left := range noLefts {
		list = append(list, bucket(50, left, 0), bucket(50, left, 12))
	}
	for _, at := range noTimes {
		list = append(list, bucket(50, 0, at), bucket(50, 5, at))
	}
	for _, far := range []int64{math.MinInt64, -1, 1000001, math.MaxInt64} {
		list = append(list, bucket(far, far, far))
	}
	return list
}

// noBuckets are wrong in one of them, in their order or their number.
func noBuckets() map[string][]impl.Bucket {
	a, b, c := bucket(1, 5, 3), bucket(50, 0, 2), bucket(98, 2, 1)
	wayRound := manyBuckets(20)
	slices.Reverse(wayRound)
	lists := map[string][]impl.Bucket{
		"one twice":                          {a, a},
		"two of one Source":                  {a, bucket(1, 4, 3)},
		"two of one Source, at other times":  {a, bucket(1, 5, 4)},
		"two of one Source at the end":       {a, b, bucket(50, 1, 2)},
		"two of one Source at the beginning": {bucket(1, 0, 0), a, b},
		"two of one Source amid":             {a, b, b, c},
		"one again, not side by side":        {a, b, a},
		"two in the wrong order":             {b, a},
		"the first two in the wrong order":   {b, a, c},
		"the last two in the wrong order":    {a, c, b},
		"the first and the last changed":     {c, b, a},
		"by At, not by Source":               {c, b, bucket(1, 5, 9)},
		"21":                                 manyBuckets(21),
		"22":                                 manyBuckets(22),
		"276":                                manyBuckets(276),
		"21, the last one twice":             append(manyBuckets(20), manyBuckets(20)[19]),
		"21, the first one twice":            append(manyBuckets(1), manyBuckets(20)...),
		"20, the wrong way round":            wayRound,
		"20, the last two alike":             append(manyBuckets(19), manyBuckets(19)[18]),
		"100, each Source":                   bucketsOfSources(drawFrom(1), eachSource(0, 99), 0, 5),
	}
	for i, wrong := range wrongBuckets() {
		lists[fmt.Sprintf("alone, wrong one %d", i)] = []impl.Bucket{wrong}
		lists[fmt.Sprintf("first, wrong one %d", i)] = []impl.Bucket{wrong, bucket(98, 1, 1), bucket(99, 1, 1)}
		lists[fmt.Sprintf("amid, wrong one %d", i)] = []impl.Bucket{a, wrong, c}
		lists[fmt.Sprintf("last, wrong one %d", i)] = []impl.Bucket{bucket(0, 5, 0), a, wrong}
	}
	return lists
}

// sourcesFor are those that are there, what is next to them, and the edges.
func sourcesFor(list []impl.Bucket) []int64 {
	sources := slices.Concat(edgeSources, noSources)
	for _, b := range list {
		sources = append(sources, b.Source-1, b.Source, b.Source+1)
	}
	slices.Sort(sources)
	return slices.Compact(sources)
}

// nowsFor are around each At, as many ticks behind it as fill it, and the edges.
func nowsFor(list []impl.Bucket) []int64 {
	nows := append([]int64{0, 1, 10, 500000, 999999, 1000000}, noTimes...)
	for _, b := range list {
		for ticks := int64(-2); ticks <= 6; ticks++ {
			nows = append(nows, b.At+ticks)
		}
	}
	slices.Sort(nows)
	return slices.Compact(nows)
}

// askDrawn asks what is told of one Source at one time: by a second reading of the chapter, and by promise 15 itself.
func askDrawn(t *testing.T, list []impl.Bucket, source, now int64) ([]impl.Bucket, bool) {
	t.Helper()
	left := impl.LeftFor(list, source, now)
	if want := leftByWords(list, source, now); left != want {
		t.Fatalf("LeftFor(%v, %d, %d) = %d, not %d", list, source, now, left, want)
	}
	got, ok := impl.Drawn(list, source, now)
	if want, wantOk := drawnByWords(list, source, now); ok != wantOk || !sameBuckets(got, want) {
		t.Fatalf("Drawn(%v, %d, %d) = %v, %v, not %v, %v", list, source, now, got, ok, want, wantOk)
	}
	if !ok {
		if !sameBuckets(got, list) {
			t.Fatalf("Drawn(%v, %d, %d) = %v, false", list, source, now, got)
		}
		return got, ok
	}
	b, there := bucketOf(got, source)
	if !there || b != bucket(source, left-1, now) || impl.LeftFor(got, source, now) != left-1 {
		t.Fatalf("of %v, with %d Left for %d at %d, is Drawn %v", list, left, source, now, got)
	}
	if !impl.BucketsOk(got) || !sameBuckets(withoutSource(got, source), withoutSource(list, source)) {
		t.Fatalf("Drawn(%v, %d, %d) = %v", list, source, now, got)
	}
	return got, ok
}

// askOthers: what is Drawn from one Source changes what is LeftFor none other.
func askOthers(t *testing.T, before, behind []impl.Bucket, source, now int64) {
	t.Helper()
	for _, other := range slices.Concat(eachSource(0, 99), []int64{-1, 100}) {
		if other == source {
			continue
		}
		for _, later := range []int64{now - 1, now, now + 1, now + 4} {
			if was, is := impl.LeftFor(before, other, later), impl.LeftFor(behind, other, later); was != is {
				t.Fatalf("Drawn from %d at %d: LeftFor %d at %d was %d and is %d", source, now, other, later, was, is)
			}
		}
	}
}

func askAreNoBuckets(t *testing.T, what string, list []impl.Bucket) {
	t.Helper()
	if bucketsByWords(list) || impl.BucketsOk(list) {
		t.Fatalf("%s: BucketsOk", what)
	}
	sources := append([]int64{-1, 0, 3, 99, 100, math.MinInt64, math.MaxInt64}, list[0].Source, list[len(list)-1].Source)
	for _, source := range sources {
		for _, now := range []int64{math.MinInt64, -1, 0, 2, 12, 1000000, 1000001, math.MaxInt64} {
			if got, ok := impl.Drawn(list, source, now); ok || len(got) != 0 {
				t.Fatalf("%s: Drawn from %d at %d is %v, %v", what, source, now, got, ok)
			}
			if left := impl.LeftFor(list, source, now); left != -1 {
				t.Fatalf("%s: LeftFor %d at %d is %d", what, source, now, left)
			}
		}
	}
}

func TestBucketsKnown(t *testing.T) {
	if impl.MaxLeft != 5 {
		t.Fatal("constants")
	}
	list := []impl.Bucket{bucket(3, 2, 10), bucket(7, 0, 12)}
	for _, ask := range []struct {
		source, now, left int64
		want              []impl.Bucket
	}{
		{3, 10, 2, []impl.Bucket{bucket(3, 1, 10), bucket(7, 0, 12)}},
		{3, 11, 3, []impl.Bucket{bucket(3, 2, 11), bucket(7, 0, 12)}},
		{3, 13, 5, []impl.Bucket{bucket(3, 4, 13), bucket(7, 0, 12)}},
		{3, 14, 5, []impl.Bucket{bucket(3, 4, 14), bucket(7, 0, 12)}},
		{3, 1000000, 5, []impl.Bucket{bucket(3, 4, 1000000), bucket(7, 0, 12)}},
		{7, 13, 1, []impl.Bucket{bucket(3, 2, 10), bucket(7, 0, 13)}},
		{7, 15, 3, []impl.Bucket{bucket(3, 2, 10), bucket(7, 2, 15)}},
		{0, 0, 5, []impl.Bucket{bucket(0, 4, 0), bucket(3, 2, 10), bucket(7, 0, 12)}},
		{5, 9, 5, []impl.Bucket{bucket(3, 2, 10), bucket(5, 4, 9), bucket(7, 0, 12)}},
		{99, 1000000, 5, []impl.Bucket{bucket(3, 2, 10), bucket(7, 0, 12), bucket(99, 4, 1000000)}},
	} {
		if got, ok := impl.Drawn(list, ask.source, ask.now); !ok || !sameBuckets(got, ask.want) {
			t.Errorf("Drawn from %d at %d is %v, %v", ask.source, ask.now, got, ok)
		}
		if left := impl.LeftFor(list, ask.source, ask.now); left != ask.left {
			t.Errorf("LeftFor %d at %d is %d", ask.source, ask.now, left)
		}
	}
	for _, ask := range []struct{ source, now, left int64 }{
		{7, 12, 0}, {7, 11, -1}, {3, 9, -1}, {3, 0, -1}, {-1, 12, -1}, {100, 12, -1}, {3, -1, -1}, {3, 1000001, -1}, {4, 1000001, -1}, {4, -1, -1},
	} {
		if got, ok := impl.Drawn(list, ask.source, ask.now); ok || !sameBuckets(got, list) {
			t.Errorf("Drawn from %d at %d is %v, %v", ask.source, ask.now, got, ok)
		}
		if left := impl.LeftFor(list, ask.source, ask.now); left != ask.left {
			t.Errorf("LeftFor %d at %d is %d", ask.source, ask.now, left)
		}
	}
}

func TestBucketsOfNone(t *testing.T) {
	for _, none := range [][]impl.Bucket{nil, {}, make([]impl.Bucket, 0, 5)} {
		if !impl.BucketsOk(none) {
			t.Error("none are not BucketsOk")
		}
		for _, source := range slices.Concat(eachSource(0, 99), noSources) {
			for _, now := range slices.Concat(edgeTimes, noTimes) {
				got, ok := askDrawn(t, none, source, now)
				right := source >= 0 && source <= 99 && now >= 0 && now <= 1000000
				if ok != right || right && (len(got) != 1 || got[0] != bucket(source, 4, now)) {
					t.Fatalf("of none, from %d at %d: %v, %v", source, now, got, ok)
				}
			}
		}
	}
}

// Each Source, Left and At at its edges with each of the others.
func TestBucketsAtTheirEdges(t *testing.T) {
	rightOnes := 0
	for _, source := range slices.Concat(edgeSources, noSources) {
		for _, left := range slices.Concat([]int64{0, 1, 2, 3, 4, 5}, noLefts) {
			for _, at := range slices.Concat(edgeTimes, noTimes) {
				b := bucket(source, left, at)
				alone := []impl.Bucket{b}
				if got := impl.BucketsOk(alone); got != bucketByWords(b) {
					t.Fatalf("BucketsOk of %v alone is %v", b, got)
				}
				if !bucketByWords(b) {
					askAreNoBuckets(t, fmt.Sprint(b), alone)
					continue
				}
				rightOnes++
				for _, other := range []int64{source, source - 1, source + 1} {
					for ticks := int64(-2); ticks <= 7; ticks++ {
						askDrawn(t, alone, other, at+ticks)
					}
				}
			}
		}
	}
	if rightOnes != 5*6*14 {
		t.Fatalf("%d are right", rightOnes)
	}
}

// One more comes each tick, up to MaxLeft, however many ticks have passed.
func TestBucketsFill(t *testing.T) {
	for ticks, want := range map[int64]int64{0: 0, 1: 1, 2: 2, 3: 3, 4: 4, 5: 5, 6: 5, 7: 5, 100: 5, 1 << 8: 5, 1<<16 + 1: 5, impl.MaxTime - 1: 5, impl.MaxTime: 5} {
		for _, at := range []int64{0, 1, 10, impl.MaxTime - ticks} {
			if at < 0 || at+ticks > impl.MaxTime {
				continue
			}
			for left := range int64(6) {
				want := min(want+left, 5)
				list := []impl.Bucket{bucket(2, 3, 0), bucket(3, left, at), bucket(4, 5, 0)}
				if got := impl.LeftFor(list, 3, at+ticks); got != want {
					t.Errorf("of %d at %d are, %d ticks later, %d left", left, at, ticks, got)
				}
				got, ok := askDrawn(t, list, 3, at+ticks)
				if ok != (want > 0) || ok && got[1] != bucket(3, want-1, at+ticks) || !ok && got[1] != list[1] {
					t.Errorf("of %d at %d is, %d ticks later, Drawn %v, %v", left, at, ticks, got, ok)
				}
			}
		}
	}
}

// An At is held against now for its own Source only: other Sources may be ahead.
func TestBucketsAboveNow(t *testing.T) {
	for _, at := range []int64{1, 2, 10, 999999, 1000000} {
		for left := range int64(6) {
			list := []impl.Bucket{bucket(5, left, at), bucket(6, 2, 0)}
			for _, now := range []int64{0, at / 2, at - 1} {
				if got, ok := askDrawn(t, list, 5, now); ok || impl.LeftFor(list, 5, now) != -1 {
					t.Fatalf("of %v, at %d: %v, %v", list, now, got, ok)
				}
				for _, other := range []int64{4, 6, 7} {
					if got, ok := askDrawn(t, list, other, now); !ok || impl.LeftFor(list, other, now) < 2 {
						t.Fatalf("of %v, from %d at %d: %v, %v", list, other, now, got, ok)
					}
				}
			}
			if got, ok := askDrawn(t, list, 5, at); ok != (left > 0) || impl.LeftFor(list, 5, at) != left {
				t.Fatalf("of %v, at %d itself: %v, %v", list, at, got, ok)
			}
			if got, ok := askDrawn(t, list, 5, at+1); ok != (at < impl.MaxTime) {
				t.Fatalf("of %v, at %d: %v, %v", list, at+1, got, ok)
			}
		}
	}
}

func TestBucketsRight(t *testing.T) {
	for _, list := range someBuckets() {
		if !bucketsByWords(list) || !impl.BucketsOk(list) {
			t.Fatalf("%v are not right", list)
		}
		for _, source := range sourcesFor(list) {
			for _, now := range nowsFor(list) {
				askDrawn(t, list, source, now)
			}
		}
	}
}

func TestBucketsOfTwoAndThreeSources(t *testing.T) {
	sources := []int64{math.MinInt64, -1, 0, 1, 2, 49, 50, 98, 99, 100, math.MaxInt64}
	right := 0
	for _, a := range sources {
		for _, b := range sources {
			two := []impl.Bucket{bucket(a, 5, 1), bucket(b, 5, 1)}
			if got := impl.BucketsOk(two); got != (0 <= a && a < b && b <= 99) {
				t.Fatalf("BucketsOk(%v) is %v", two, got)
			}
			for _, c := range sources {
				three := []impl.Bucket{bucket(a, 1, 9), bucket(b, 0, 8), bucket(c, 2, 7)}
				if got := impl.BucketsOk(three); got != bucketsByWords(three) {
					t.Fatalf("BucketsOk(%v) is %v", three, got)
				} else if !got {
					askAreNoBuckets(t, fmt.Sprint(three), three)
					continue
				}
				right++
				for _, source := range sources {
					askDrawn(t, three, source, 8)
					askDrawn(t, three, source, 9)
				}
			}
		}
	}
	if right != 7*6*5/6 {
		t.Fatalf("%d are right", right)
	}
}

// As many as there may be: one that is there is Drawn from, one more has room with 19 and none with 20.
func TestBucketsAsManyAsAny(t *testing.T) {
	for n := range 24 {
		list := manyBuckets(n)
		if got := impl.BucketsOk(list); got != (n <= 20) {
			t.Fatalf("BucketsOk of %d is %v", n, got)
		}
		if n > 20 {
			askAreNoBuckets(t, fmt.Sprint(n), list)
			continue
		}
		for source := range int64(100) {
			got, ok := askDrawn(t, list, source, 20)
			_, there := bucketOf(list, source)
			if left := impl.LeftFor(list, source, 20); left != 5 {
				t.Fatalf("of %d, LeftFor %d is %d", n, source, left)
			}
			if ok != (there || n < 20) || len(got) > 20 {
				t.Fatalf("of %d, Drawn from %d is %v, %v", n, source, got, ok)
			}
		}
	}
}

// A new Source goes ahead of all, between any two, and behind all.
func TestBucketsNewInEachPlace(t *testing.T) {
	for n := range 20 {
		list := manyBuckets(n)
		for place := range n + 1 {
			source := int64(3*place + 1)
			got, ok := impl.Drawn(list, source, 40)
			if !ok || len(got) != n+1 || got[place] != bucket(source, 4, 40) || !sameBuckets(slices.Concat(got[:place], got[place+1:]), list) {
				t.Fatalf("a new one at %d of %d: %v, %v", place, n, got, ok)
			}
			askDrawn(t, got, source, 40)
		}
	}
	full := manyBuckets(20)
	for place := range 21 {
		source := int64(3*place + 1)
		if got, ok := impl.Drawn(full, source, 40); ok || !sameBuckets(got, full) || impl.LeftFor(full, source, 40) != 5 {
			t.Fatalf("a new one at %d of 20: %v, %v", place, got, ok)
		}
	}
}

// No room, 0 Left, and a Source or time out of range, each alone and with each other.
func TestBucketsRefused(t *testing.T) {
	full := manyBuckets(20)
	full[3].Left, full[3].At = 0, 30
	there, absent := full[3].Source, int64(0)
	for _, ask := range []struct{ source, now, left int64 }{
		{there, 30, 0}, {there, 29, -1}, {there, -1, -1}, {there, impl.MaxTime + 1, -1}, {there, math.MinInt64, -1}, {there, math.MaxInt64, -1},
		{absent, 30, 5}, {absent, 0, 5}, {absent, impl.MaxTime, 5}, {absent, -1, -1}, {absent, impl.MaxTime + 1, -1},
		{-1, 30, -1}, {100, 30, -1}, {math.MinInt64, 30, -1}, {math.MaxInt64, 30, -1}, {-1, -1, -1}, {100, impl.MaxTime + 1, -1},
		{math.MinInt64, math.MinInt64, -1}, {math.MaxInt64, math.MaxInt64, -1}, {math.MinInt64, math.MaxInt64, -1}, {math.MaxInt64, math.MinInt64, -1},
	} {
		if got, ok := impl.Drawn(full, ask.source, ask.now); ok || !sameBuckets(got, full) {
			t.Errorf("Drawn from %d at %d is %v, %v", ask.source, ask.now, got, ok)
		}
		if left := impl.LeftFor(full, ask.source, ask.now); left != ask.left {
			t.Errorf("LeftFor %d at %d is %d", ask.source, ask.now, left)
		}
	}
	if got, ok := askDrawn(t, full, there, 31); !ok || got[3] != bucket(there, 0, 31) {
		t.Errorf("with one that came it is %v, %v", got, ok)
	}
}

func TestNoBuckets(t *testing.T) {
	for what, list := range noBuckets() {
		askAreNoBuckets(t, what, list)
	}
}

// Each place is looked at, the first and the last of 20 among them.
func TestBucketsWrongInOnePlace(t *testing.T) {
	for _, n := range []int{1, 2, 3, 10, 19, 20} {
		for place := range n {
			for _, wrong := range []func(b *impl.Bucket){
				func(b *impl.Bucket) { b.Left = -1 },
				func(b *impl.Bucket) { b.Left = 6 },
				func(b *impl.Bucket) { b.At = -1 },
				func(b *impl.Bucket) { b.At = impl.MaxTime + 1 },
				func(b *impl.Bucket) { b.Source = -1 },
				func(b *impl.Bucket) { b.Source = 100 },
				func(b *impl.Bucket) { b.Source = math.MaxInt64 },
			} {
				list := manyBuckets(n)
				wrong(&list[place])
				askAreNoBuckets(t, fmt.Sprintf("%v at %d of %d", list[place], place, n), list)
			}
			if place == 0 {
				continue
			}
			list := manyBuckets(n)
			list[place].Source = list[place-1].Source
			askAreNoBuckets(t, fmt.Sprintf("two alike at %d of %d", place, n), list)
			list = manyBuckets(n)
			list[place-1], list[place] = list[place], list[place-1]
			askAreNoBuckets(t, fmt.Sprintf("two changed about at %d of %d", place, n), list)
		}
	}
}

// A pull is one Drawn of a script.
type pull struct {
	source, now int64
	ok          bool
}

// drawnScript are pulls at times that never fall, from few Sources or from many, close together or with waits.
func drawnScript(draw func(int) int, now int64, sources []int64, waits []int64, n int) []pull {
	script := []pull{}
	for range n {
		now += waits[draw(len(waits))]
		script = append(script, pull{source: sources[draw(len(sources))], now: now})
	}
	return script
}

// played does what the script says, and answers what came of it.
func played(list []impl.Bucket, script []pull) ([]impl.Bucket, []pull) {
	done := []pull{}
	for _, p := range script {
		list, p.ok = impl.Drawn(list, p.source, p.now)
		done = append(done, p)
	}
	return list, done
}

// timesOf are when there was Drawn from each Source.
func timesOf(done []pull) map[int64][]int64 {
	times := map[int64][]int64{}
	for _, p := range done {
		if p.ok {
			times[p.source] = append(times[p.source], p.now)
		}
	}
	return times
}

// askNeverMore is promise 15 of one Source: within any ticks no more than MaxLeft and one for each. It answers how often it is just as many.
func askNeverMore(t *testing.T, source int64, times []int64) int {
	t.Helper()
	most := 0
	for first := range times {
		for last := first; last < len(times); last++ {
			came, may := int64(last-first+1), 5+times[last]-times[first]
			if came > may {
				t.Fatalf("from %d came %d from %d to %d: %v", source, came, times[first], times[last], times)
			}
			if came == may {
				most++
			}
		}
	}
	return most
}

// bucketScripts are Buckets with a script for each: of each kind, beginning behind all Ats, amid them, or ahead.
func bucketScripts() map[string][]bucketScript {
	draw := drawFrom(51)
	some := [][]int64{{3}, {0, 1}, {0, 3, 99}, eachSource(0, 24), eachSource(75, 99)}
	waits := [][]int64{{0}, {1}, {0, 0, 0, 1}, {0, 0, 0, 0, 0, 0, 1, 2, 3}, {0, 1, 5, 6, 100}}
	byKind := drawnBuckets()
	scripts := map[string][]bucketScript{}
	for _, what := range slices.Sorted(maps.Keys(byKind)) {
		for _, list := range byKind[what] {
			begin := int64(draw(20))
			if len(list) > 0 {
				begin = max(0, list[draw(len(list))].At-int64(draw(4))+int64(draw(8)))
			}
			sources := some[draw(len(some))]
			if draw(2) == 0 {
				for _, b := range list {
					sources = append(slices.Clone(sources), b.Source)
				}
			}
			scripts[what] = append(scripts[what], bucketScript{list, drawnScript(draw, begin, sources, waits[draw(len(waits))], 60)})
		}
	}
	return scripts
}

type bucketScript struct {
	list   []impl.Bucket
	script []pull
}

// Promise 15: from none comes more than MaxLeft and one a tick.
func TestPromise15NoneComesMore(t *testing.T) {
	scripts := bucketScripts()
	most, longest := 0, 0
	for _, what := range slices.Sorted(maps.Keys(scripts)) {
		for _, s := range scripts[what] {
			_, done := played(s.list, s.script)
			for source, times := range timesOf(done) {
				most += askNeverMore(t, source, times)
				longest = max(longest, len(times))
			}
		}
	}
	if most < 500 || longest < 30 {
		t.Errorf("%d times came just as many, at most %d from one", most, longest)
	}
}

// Promise 15: each Drawn of the scripts is as told, and leaves the other Sources as they were.
func TestPromise15EachDrawn(t *testing.T) {
	scripts := bucketScripts()
	drawn, empty, above, noRoom, outOfTime := 0, 0, 0, 0, 0
	for _, what := range slices.Sorted(maps.Keys(scripts)) {
		for _, s := range scripts[what] {
			list := s.list
			for i, p := range s.script {
				next, ok := askDrawn(t, list, p.source, p.now)
				if i%5 == 0 {
					askOthers(t, list, next, p.source, p.now)
				}
				b, there := bucketOf(list, p.source)
				switch {
				case ok:
					drawn++
				case p.now > impl.MaxTime:
					outOfTime++
				case !there:
					noRoom++
				case b.At > p.now:
					above++
				default:
					empty++
				}
				list = next
			}
		}
	}
	if drawn < 2000 || empty < 500 || above < 100 || noRoom < 100 || outOfTime < 20 {
		t.Errorf("%d are Drawn, %d have 0 Left, %d an At above now, %d no room, %d no time", drawn, empty, above, noRoom, outOfTime)
	}
}

// Promise 15: each Source has its own. What comes from one among others comes from it alone, too.
func TestPromise15EachSourceHasItsOwn(t *testing.T) {
	draw := drawFrom(52)
	for range 200 {
		sources := drawnSources(draw, 1+draw(20), 100)
		script := drawnScript(draw, int64(draw(100)), sources, []int64{0, 0, 0, 0, 1, 3}, 100)
		list, done := played(nil, script)
		for _, source := range sources {
			of := func(p pull) bool { return p.source != source }
			alone, doneAlone := played(nil, slices.DeleteFunc(slices.Clone(script), of))
			if !slices.Equal(doneAlone, slices.DeleteFunc(slices.Clone(done), of)) {
				t.Fatalf("from %d comes, alone, %v", source, doneAlone)
			}
			b, there := bucketOf(list, source)
			if there != (len(alone) == 1) || there && alone[0] != b {
				t.Fatalf("of %d there is %v, alone %v", source, b, alone)
			}
		}
	}
}

// Promise 15: whoever asks all the time gets MaxLeft, and then one a tick; after a wait one for each tick of it, up to MaxLeft.
func TestPromise15AskedAllTheTime(t *testing.T) {
	for _, begin := range []int64{0, 1, 77, impl.MaxTime - 40} {
		list, now := []impl.Bucket{}, begin
		for i, wait := range []int64{0, 1, 1, 1, 2, 1, 3, 4, 5, 6, 1, 7, 0, 1, 0, 0, 1} {
			now += wait
			want := min(wait, 5)
			if i == 0 {
				want = 5
			}
			came := int64(0)
			for range 12 {
				next, ok := askDrawn(t, list, 42, now)
				if ok {
					came++
				}
				list = next
			}
			if came != want {
				t.Fatalf("begun at %d, %d ticks later at %d: %d came", begin, wait, now, came)
			}
		}
	}
}

// What is refused costs nothing: however often one asks in vain, as many come later.
func TestPromise15RefusedCostsNothing(t *testing.T) {
	for left := range int64(6) {
		for vain := range 8 {
			list := []impl.Bucket{bucket(9, left, 50)}
			for range vain {
				list, _ = askDrawn(t, list, 9, 49)
				list, _ = askDrawn(t, list, 100, 50)
				list, _ = askDrawn(t, list, 9, -1)
				list, _ = askDrawn(t, list, 9, impl.MaxTime+1)
			}
			for range left {
				list, _ = askDrawn(t, list, 9, 50)
			}
			for range vain {
				list, _ = askDrawn(t, list, 9, 50)
			}
			for ticks := range int64(8) {
				if got := impl.LeftFor(list, 9, 50+ticks); got != min(ticks, 5) {
					t.Fatalf("of %d, asked %d times in vain: %d ticks later %d are left", left, vain, ticks, got)
				}
			}
		}
	}
}

// Any numbers: they are as the chapter says, and nothing panics.
func TestBucketsOfAnyNumbers(t *testing.T) {
	draw := drawFrom(53)
	number := func(from int64, n int) int64 {
		if draw(40) == 0 {
			return []int64{math.MinInt64, math.MinInt64 + 1, -1, impl.MaxTime, impl.MaxTime + 1, 99, 100, 1 << 40, math.MaxInt64 - 1, math.MaxInt64}[draw(10)]
		}
		return from + int64(draw(n))
	}
	right, came := 0, 0
	for range 20000 {
		list := []impl.Bucket{}
		source := int64(0)
		for range draw(24) {
			source += number(1, 5) - int64(draw(20)/19)
			list = append(list, bucket(source, number(0, 6), number(0, 9)))
		}
		if impl.BucketsOk(list) != bucketsByWords(list) {
			t.Fatalf("BucketsOk(%v) is %v", list, impl.BucketsOk(list))
		}
		if impl.BucketsOk(list) {
			right++
		}
		for range 5 {
			source, now := number(0, 60), number(0, 12)
			got, ok := impl.Drawn(list, source, now)
			if want, wantOk := drawnByWords(list, source, now); ok != wantOk || !sameBuckets(got, want) {
				t.Fatalf("Drawn(%v, %d, %d) = %v, %v", list, source, now, got, ok)
			}
			if left := impl.LeftFor(list, source, now); left != leftByWords(list, source, now) {
				t.Fatalf("LeftFor(%v, %d, %d) = %d", list, source, now, left)
			}
			if ok {
				came++
			}
		}
	}
	if right < 2000 || right > 18000 || came < 5000 {
		t.Errorf("%d are right, %d came", right, came)
	}
}

// bucketArguments are right and wrong lists.
func bucketArguments() [][]impl.Bucket {
	lists := someBuckets()
	wrong := noBuckets()
	for _, what := range slices.Sorted(maps.Keys(wrong)) {
		lists = append(lists, wrong[what])
	}
	return lists
}

type bucketAnswer struct {
	lists [][]impl.Bucket
	told  string
}

// bucketAnswers asks all functions: of each Source that is there or next to it, around each At, and of the farthest numbers.
func bucketAnswers(list []impl.Bucket) (all bucketAnswer) {
	told := []any{impl.BucketsOk(list)}
	sources, nows := []int64{math.MinInt64, -1, 0, 3, 99, 100, math.MaxInt64}, []int64{math.MinInt64, -1, 0, impl.MaxTime, impl.MaxTime + 1, math.MaxInt64}
	for _, i := range []int{0, len(list) / 2, len(list) - 1} {
		if i >= 0 && i < len(list) {
			sources = append(sources, list[i].Source, list[i].Source+1)
			nows = append(nows, list[i].At-1, list[i].At, list[i].At+1)
		}
	}
	for _, source := range sources {
		for _, now := range nows {
			got, ok := impl.Drawn(list, source, now)
			all.lists = append(all.lists, got)
			told = append(told, ok, impl.LeftFor(list, source, now))
		}
	}
	all.told = fmt.Sprint(told...)
	return all
}

func (a bucketAnswer) clone() bucketAnswer {
	lists := [][]impl.Bucket{}
	for _, list := range a.lists {
		lists = append(lists, slices.Clone(list))
	}
	return bucketAnswer{lists, a.told}
}

func (a bucketAnswer) same(b bucketAnswer) bool {
	return slices.EqualFunc(a.lists, b.lists, sameBuckets) && a.told == b.told
}

var scribbledBucket = bucket(-9, -9, -9)

func (a bucketAnswer) scribble() {
	for _, list := range a.lists {
		scribbleOn(list, scribbledBucket)
	}
}

// Promise 21 of chapter 15: nothing is written into an argument or the room behind it, and no answer lies there.
func TestPromise21BucketArgumentsStay(t *testing.T) {
	mark := bucket(-7, -7, -7)
	for i, list := range bucketArguments() {
		for _, room := range []int{0, 1, 2, 30} {
			given, all := roomyOf(list, room, mark)
			before := slices.Clone(all)
			got := bucketAnswers(given)
			if !sameBuckets(all, before) {
				t.Fatalf("list %d with room for %d: something was written", i, room)
			}
			got.scribble()
			if !sameBuckets(all, before) {
				t.Fatalf("list %d with room for %d: an answer shares memory", i, room)
			}
		}
	}
}

// Promise 21: the same of arguments that are pieces of one array.
func TestPromise21BucketArgumentsInOneArray(t *testing.T) {
	all := manyBuckets(25)
	before := slices.Clone(all)
	for from := range 25 {
		for to := from; to <= 25; to++ {
			want := bucketAnswers(slices.Clone(all[from:to])).clone()
			got := bucketAnswers(all[from:to])
			if !got.same(want) || !sameBuckets(all, before) {
				t.Fatalf("from %d to %d: something was written", from, to)
			}
			got.scribble()
			if !sameBuckets(all, before) {
				t.Fatalf("from %d to %d: an answer shares memory", from, to)
			}
		}
	}
}

// Promise 21: an argument that is written to later changes no answer.
func TestPromise21BucketAnswersStay(t *testing.T) {
	for i, list := range bucketArguments() {
		given, all := roomyOf(list, 3, impl.Bucket{})
		got := bucketAnswers(given)
		want := got.clone()
		scribbleOn(all, scribbledBucket)
		if !got.same(want) {
			t.Fatalf("list %d: an answer shares memory", i)
		}
	}
}

// Promise 21: no two answers have anything in common, be they to the same, or one out of the other.
func TestPromise21BucketAnswersAreApart(t *testing.T) {
	for i, list := range bucketArguments() {
		first, second := bucketAnswers(list), bucketAnswers(list)
		on := bucketAnswers(first.lists[len(first.lists)-1])
		want, wantOn := second.clone(), on.clone()
		for at, one := range first.lists {
			scribbleOn(one, scribbledBucket)
			if at+1 < len(first.lists) && !sameBuckets(first.lists[at+1], want.lists[at+1]) {
				t.Fatalf("list %d: answers %d and %d share memory", i, at, at+1)
			}
		}
		if !second.same(want) || !on.same(wantOn) {
			t.Fatalf("list %d: two answers share memory", i)
		}
		on.scribble()
		if !second.same(want) || !bucketAnswers(list).same(want) {
			t.Fatalf("list %d: two answers share memory", i)
		}
	}
}

// Promise 21: two that go on from one answer do not write over each other.
func TestPromise21BucketTwoWaysOn(t *testing.T) {
	for n := range 19 {
		one, ok := impl.Drawn(manyBuckets(n), 70, 40)
		left, leftOk := impl.Drawn(one, 80, 41)
		want := slices.Clone(left)
		right, rightOk := impl.Drawn(one, 90, 42)
		again, againOk := impl.Drawn(one, 70, 43)
		refused, refusedOk := impl.Drawn(one, 100, 44)
		more := append(refused, bucket(99, 1, 1))
		if !ok || !leftOk || !rightOk || !againOk || refusedOk || !sameBuckets(left, want) {
			t.Fatalf("of %d: %v, %v, %v", n, left, right, again)
		}
		if right[n+1] != bucket(90, 4, 42) || again[n] != bucket(70, 4, 43) || one[n] != bucket(70, 4, 40) || more[n+1] != bucket(99, 1, 1) {
			t.Fatalf("of %d: %v, %v, %v", n, one, right, again)
		}
	}
}

// Promise 21: the same arguments get the same answer again, whatever was asked in between.
func TestPromise21BucketAgain(t *testing.T) {
	lists := bucketArguments()
	first := []bucketAnswer{}
	for _, list := range lists {
		first = append(first, bucketAnswers(list))
	}
	for i, list := range slices.Backward(lists) {
		if got := bucketAnswers(slices.Clone(list)); !got.same(first[i]) {
			t.Fatalf("list %d: %v, then %v", i, first[i].told, got.told)
		}
	}
}
