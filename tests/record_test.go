package tests

import (
	"fmt"
	"math"
	"slices"
	"strconv"
	"strings"
	"testing"

	"loop.example/g00307/impl"
)

// The constants have no kind of their own, so that they go with any number.
const (
	_ uint8   = impl.TyKey
	_ float64 = impl.MaxTtl
)

func rr(name string, kind, ttl int64, text string) impl.Rr {
	return impl.Rr{Name: name, Type: kind, Ttl: ttl, Text: text}
}

// rrOf is what makes one record another than those beside it; rrSet is what has one Ttl.
type rrOf struct {
	name string
	kind int64
	text string
}

type rrSet struct {
	name string
	kind int64
}

func rrByWords(r impl.Rr) bool {
	return nameByPattern(r.Name) && slices.Contains([]int64{1, 2, 3, 4, 5}, r.Type) && !(r.Ttl < 0 || r.Ttl > 100) && len(r.Text) < 61
}

func orderByFields(a, b impl.Rr) int {
	if order := orderByLabels(a.Name, b.Name); order != 0 {
		return order
	}
	if a.Type != b.Type {
		return int(a.Type) - int(b.Type)
	}
	return slices.Compare([]byte(a.Text), []byte(b.Text))
}

func allRight(list []impl.Rr) bool {
	return len(list) <= 60 && !slices.ContainsFunc(list, func(r impl.Rr) bool { return !rrByWords(r) })
}

// recordsByPairs holds any two against each other, not neighbours alone.
func recordsByPairs(list []impl.Rr) bool {
	if !allRight(list) {
		return false
	}
	for i, a := range list {
		for _, b := range list[i+1:] {
			if orderByFields(a, b) >= 0 || a.Name == b.Name && a.Type == b.Type && a.Ttl != b.Ttl {
				return false
			}
		}
	}
	return true
}

// sortedByKeys makes the records anew out of what is different among them.
func sortedByKeys(list []impl.Rr) []impl.Rr {
	if !allRight(list) {
		return nil
	}
	least, seen := map[rrSet]int64{}, map[rrOf]bool{}
	for _, r := range list {
		ttl, known := least[rrSet{r.Name, r.Type}]
		if !known || r.Ttl < ttl {
			least[rrSet{r.Name, r.Type}] = r.Ttl
		}
		seen[rrOf{r.Name, r.Type, r.Text}] = true
	}
	sorted := []impl.Rr{}
	for one := range seen {
		sorted = append(sorted, rr(one.name, one.kind, least[rrSet{one.name, one.kind}], one.text))
	}
	slices.SortFunc(sorted, orderByFields)
	return sorted
}

// setByKeys and canonByPrint take Records alone.
func setByKeys(list []impl.Rr, name string, kind int64) []impl.Rr {
	set := []impl.Rr{}
	for _, r := range list {
		if (rrSet{r.Name, r.Type}) == (rrSet{name, kind}) {
			set = append(set, r)
		}
	}
	return set
}

func canonByPrint(list []impl.Rr) string {
	text := ""
	for _, r := range list {
		text += fmt.Sprintf("%s %d %d %d %s\n", r.Name, r.Type, r.Ttl, len(r.Text), r.Text)
	}
	return text
}

// canonRead reads what Canon tells, going by how long each Text is said to be.
func canonRead(text string) ([]impl.Rr, bool) {
	list := []impl.Rr{}
	for text != "" {
		words := strings.SplitN(text, " ", 5)
		if len(words) < 5 {
			return nil, false
		}
		numbers := [3]int{}
		for i := range numbers {
			number, err := strconv.Atoi(words[1+i])
			if err != nil {
				return nil, false
			}
			numbers[i] = number
		}
		long, rest := numbers[2], words[4]
		if len(rest) <= long || rest[long] != '\n' {
			return nil, false
		}
		list, text = append(list, rr(words[0], int64(numbers[0]), int64(numbers[1]), rest[:long])), rest[long+1:]
	}
	return list, true
}

// rrTexts are right at the edges, and some look like more than one line.
func rrTexts() []string {
	return []string{
		"", " ", "\n", "\x00", "a", "aa", "ab", "b", "B", "a b", "a\nb", "a\x00b", "a ", "a\n", "a\x00", "10", "9", "é", "\x7f", "\x80", "\xff", "\xff\xff", "\r\n", "\t",
		"1\nb.zone 3 3 1 2", "1\nzone 3 3 0 ", "\nzone 3 3 0 \n", "zone 3 3 0 \n", " 3 3 0 \n",
		strings.Repeat("x", 60), strings.Repeat("x", 59), strings.Repeat("\x00", 60), strings.Repeat("\n", 60), strings.Repeat(" ", 60), strings.Repeat("é", 30), strings.Repeat("x", 59) + "y",
	}
}

// noRrs are wrong in one thing each.
func noRrs() []impl.Rr {
	wrong := []impl.Rr{{}, rr("A", 3, 5, "t"), rr("*.zone", 3, 5, "t"), rr("a.", 3, 5, "t"), rr(".", 3, 5, "t"), rr("a..b", 3, 5, "t"), rr("a b", 3, 5, "t"), rr("a.b.c.d.e.f.g", 3, 5, "t"), rr(strings.Repeat("a", 13), 3, 5, "t"), rr("b\n", 3, 5, "t")}
	for _, kind := range []int64{0, 6, -1, -3, 7, 100, 256 + 3, 1<<16 + 3, 1<<32 + 3, -1<<32 + 3, math.MaxInt64, math.MinInt64, math.MinInt64 + 3} {
		wrong = append(wrong, rr("b", kind, 5, "t"), rr("", kind, 0, ""))
	}
	for _, ttl := range []int64{-1, 101, -5, 102, 1000, 256 + 5, 1<<16 + 5, 1<<32 + 5, -1<<32 + 5, math.MaxInt64, math.MinInt64, math.MinInt64 + 5} {
		wrong = append(wrong, rr("b", 3, ttl, "t"), rr("", 1, ttl, ""))
	}
	for _, text := range []string{strings.Repeat("x", 61), strings.Repeat("x", 62), strings.Repeat("\x00", 61), strings.Repeat("é", 31), strings.Repeat("x", 256+5), strings.Repeat("x", 1<<16+5), strings.Repeat(" ", 61), strings.Repeat("\n", 61)} {
		wrong = append(wrong, rr("b", 3, 5, text), rr("", 1, 0, text))
	}
	return wrong
}

// manyRrs are n in order, of four Types under many Names.
func manyRrs(n int) []impl.Rr {
	list := []impl.Rr{}
	for i := range n {
		list = append(list, rr(fmt.Sprintf("n-%03d.zone", i/8), int64(2+i/2%4), int64(i/2%101), strconv.Itoa(i%2)))
	}
	return list
}

// edgeRecords are right Records that the chapter names.
func edgeRecords() [][]impl.Rr {
	twelve := strings.Repeat("z", 12)
	lists := [][]impl.Rr{
		{}, manyRrs(1), manyRrs(2), manyRrs(59), manyRrs(60),
		{rr("", 1, 0, "")}, {rr("", 1, 100, "")}, {rr("", 5, 0, "t"), rr("a", 1, 0, "t")}, {rr("", 3, 1, ""), rr("", 3, 1, "t"), rr("-", 3, 2, "")},
		{rr("a", 1, 0, ""), rr("a", 2, 100, ""), rr("a", 3, 1, ""), rr("a", 4, 99, ""), rr("a", 5, 50, "")},
		{rr("a.zone", 3, 5, "t"), rr("b.zone", 3, 5, "t")}, {rr("z.a", 3, 5, "t"), rr("a.b", 3, 5, "t")}, {rr("zone", 3, 5, "t"), rr("a.zone", 3, 5, "t")}, {rr("z.a.zone", 3, 5, "t"), rr("b.zone", 3, 5, "t")},
		{rr("a", 3, 5, "t"), rr("z.a", 3, 5, "t"), rr("a-", 3, 5, "t"), rr("a0", 3, 5, "t"), rr("aa", 3, 5, "t")},
		{rr("b", 5, 5, "z"), rr("a.b", 1, 5, "a")}, {rr("b", 2, 5, "z"), rr("b", 3, 5, "a")}, {rr("b", 3, 5, "10"), rr("b", 3, 5, "9")}, {rr("b", 3, 5, ""), rr("b", 3, 5, "a"), rr("b", 3, 5, "aa"), rr("b", 3, 5, "b")},
		{rr("b", 2, 7, "t"), rr("b", 3, 5, "t"), rr("b", 4, 7, "t"), rr("c", 3, 6, "t")},
		{rr(twelve+"."+twelve, 3, 5, strings.Repeat("x", 60)), rr("a."+twelve+"."+twelve, 3, 5, strings.Repeat("x", 60))},
		{rr("b.zone", 3, 3, "1"), rr("b.zone", 3, 3, "1\nb.zone 3 3 1 2"), rr("b.zone", 3, 3, "2")},
		{rr("b.zone", 3, 3, "1\nb.zone 3 3 1 2"), rr("b.zone", 3, 3, "2")}, {rr("b.zone", 3, 3, "1"), rr("b.zone", 3, 3, "2")},
	}
	texts, names := []impl.Rr{}, []impl.Rr{}
	for _, text := range rrTexts() {
		texts = append(texts, rr("zone", 3, 5, text))
		lists = append(lists, []impl.Rr{rr("zone", 3, 5, text)})
	}
	for i, name := range edgeNames() {
		names = append(names, rr(name, int64(1+i%5), int64(i), "t"))
	}
	lists = append(lists, texts, names)
	for _, list := range lists {
		slices.SortFunc(list, orderByFields)
	}
	return lists
}

// drawnRrs are of few Names, Types, Ttls and Texts, the same ones at each run; some are too many.
func drawnRrs() [][]impl.Rr {
	names, texts, lists := namesFrom(2, "a", "b", "a-"), []string{"", "t", "tt", "u"}, [][]impl.Rr{}
	state := uint32(11)
	draw := func(n int) int {
		state = state*1664525 + 1013904223
		return int(state>>8) % n
	}
	for range 600 {
		list, few, kinds := []impl.Rr{}, 1+draw(len(names)), 1+draw(5)
		for range draw(63) {
			list = append(list, rr(names[draw(few)], int64(1+draw(kinds)), int64(draw(9)), texts[draw(4)]))
		}
		lists = append(lists, list)
	}
	return lists
}

// shortRrs are all lists of at most n out of a few close ones.
func shortRrs(n int) [][]impl.Rr {
	few := []impl.Rr{rr("", 3, 5, "t"), rr("a", 3, 5, "t"), rr("a", 3, 4, "t"), rr("a", 3, 5, "tt"), rr("a", 3, 4, "s"), rr("a", 2, 5, "u"), rr("b.a", 3, 4, "t"), rr("b", 2, 5, "t"), rr("b", 6, 5, "t")}
	lists, last := [][]impl.Rr{{}}, [][]impl.Rr{{}}
	for range n {
		next := [][]impl.Rr{}
		for _, list := range last {
			for _, r := range few {
				next = append(next, append(slices.Clone(list), r))
			}
		}
		lists, last = append(lists, next...), next
	}
	return lists
}

// noRecords are lists that are right one by one, but not in how they stand together; that Sorted takes them tells that nothing else is wrong.
func noRecords() map[string][]impl.Rr {
	a, b, c := rr("a.zone", 3, 5, "t"), rr("b.zone", 3, 5, "t"), rr("c.zone", 3, 5, "t")
	return map[string][]impl.Rr{
		"two Names":                      {b, a},
		"two Names ahead":                {b, a, c},
		"two Names behind":               {a, c, b},
		"first and last Name":            {c, b, a},
		"a Name ahead of its Parent":     {a, rr("zone", 3, 5, "t")},
		"a Name ahead of the root":       {a, rr("", 3, 5, "t")},
		"Names by bytes":                 {rr("a.b", 3, 5, "t"), rr("z.a", 3, 5, "t")},
		"a - ahead of a dot":             {rr("a-", 3, 5, "t"), rr("z.a", 3, 5, "t")},
		"two Types":                      {rr("b", 3, 5, "t"), rr("b", 2, 5, "t")},
		"two Types, Texts in order":      {rr("b", 5, 5, "a"), rr("b", 1, 5, "z")},
		"two Types behind":               {a, rr("b.zone", 2, 5, "t"), rr("b.zone", 1, 5, "t")},
		"two Texts":                      {rr("b", 3, 5, "z"), rr("b", 3, 5, "a")},
		"a Text ahead of what begins it": {rr("b", 3, 5, "aa"), rr("b", 3, 5, "a")},
		"a Text ahead of none":           {rr("b", 3, 5, "a"), rr("b", 3, 5, "")},
		"Texts by their length":          {rr("b", 3, 5, "9"), rr("b", 3, 5, "10")},
		"great bytes ahead":              {rr("b", 3, 5, "\xff"), rr("b", 3, 5, "\x7f")},
		"Texts behind":                   {a, rr("b.zone", 3, 5, "z"), rr("b.zone", 3, 5, "a"), c},
		"two alike":                      {b, b},
		"two alike ahead":                {a, a, b},
		"two alike behind":               {a, b, b},
		"two alike between":              {a, b, b, c},
		"two alike apart":                {a, b, a},
		"two of the root":                {rr("", 1, 0, ""), rr("", 1, 0, "")},
		"two Ttls, one Text":             {rr("b", 3, 4, "t"), rr("b", 3, 5, "t")},
		"two Ttls, one Text, less":       {rr("b", 3, 5, "t"), rr("b", 3, 4, "t")},
		"two Ttls":                       {rr("b", 3, 4, "t"), rr("b", 3, 5, "u")},
		"two Ttls, less":                 {rr("b", 3, 5, "t"), rr("b", 3, 4, "u")},
		"two Ttls ahead":                 {rr("a", 3, 0, "t"), rr("a", 3, 100, "u"), rr("b", 3, 5, "t")},
		"two Ttls behind":                {rr("a", 3, 5, "t"), rr("b", 3, 100, "t"), rr("b", 3, 0, "u")},
		"a Ttl between":                  {rr("b", 3, 5, "t"), rr("b", 3, 4, "u"), rr("b", 3, 5, "v")},
		"the last Ttl":                   {rr("b", 3, 5, "t"), rr("b", 3, 5, "u"), rr("b", 3, 4, "v")},
	}
}

func sameRrs(a, b []impl.Rr) bool { return slices.Equal(a, b) }

// askRecords holds all that is asked of a list against what is worked out another way.
func askRecords(t *testing.T, list []impl.Rr) {
	t.Helper()
	right := recordsByPairs(list)
	if got := impl.RecordsOk(list); got != right {
		t.Fatalf("%.500v: RecordsOk %v", list, got)
	}
	if got, want := impl.Sorted(list), sortedByKeys(list); !sameRrs(got, want) {
		t.Fatalf("%.500v: Sorted %.500v, not %.500v", list, got, want)
	}
	records := list
	if !right {
		records = nil
	}
	if got, want := impl.Canon(list), canonByPrint(records); got != want {
		t.Fatalf("%.500v: Canon %q, not %q", list, got, want)
	}
	sets := map[rrSet]bool{{"", 1}: true, {"zone", 3}: true, {"a", 3}: true}
	for _, r := range list {
		sets[rrSet{r.Name, r.Type}], sets[rrSet{r.Name, r.Type%5 + 1}] = true, true
	}
	for set := range sets {
		want := setByKeys(records, set.name, set.kind)
		if got := impl.SetOf(list, set.name, set.kind); !sameRrs(got, want) {
			t.Fatalf("%.500v: SetOf %v is %.500v, not %.500v", list, set, got, want)
		}
	}
}

// askAreNoRecords asks all but Sorted.
func askAreNoRecords(t *testing.T, what string, list []impl.Rr) {
	t.Helper()
	if impl.RecordsOk(list) {
		t.Errorf("%s: RecordsOk", what)
	}
	if got := impl.Canon(list); got != "" {
		t.Errorf("%s: Canon %.200q", what, got)
	}
	for _, r := range append(slices.Clone(list), rr("", 1, 0, ""), rr("b", 3, 5, "t")) {
		if got := impl.SetOf(list, r.Name, r.Type); len(got) != 0 {
			t.Errorf("%s: SetOf %.70q %d is %.200v", what, r.Name, r.Type, got)
		}
	}
}

func askAreNotRight(t *testing.T, what string, list []impl.Rr) {
	t.Helper()
	askAreNoRecords(t, what, list)
	if got := impl.Sorted(list); len(got) != 0 {
		t.Errorf("%s: Sorted %.200v", what, got)
	}
}

// inOrders are the same ones in other orders: turned round, from each third on, and drawn.
func inOrders(list []impl.Rr) [][]impl.Rr {
	turned := slices.Clone(list)
	slices.Reverse(turned)
	orders := [][]impl.Rr{list, turned}
	for at := 0; at < len(list); at += 1 + len(list)/3 {
		orders = append(orders, slices.Concat(list[at:], list[:at]))
	}
	drawn, state := slices.Clone(list), uint32(5)
	for range 4 {
		for i := range drawn {
			state = state*1664525 + 1013904223
			j := int(state>>8) % (i + 1)
			drawn[i], drawn[j] = drawn[j], drawn[i]
		}
		orders = append(orders, slices.Clone(drawn))
	}
	return orders
}

// eachOrder are all orders there are of a few.
func eachOrder[T any](list []T) [][]T {
	if len(list) == 0 {
		return [][]T{{}}
	}
	orders := [][]T{}
	for i := range list {
		for _, rest := range eachOrder(slices.Concat(list[:i], list[i+1:])) {
			orders = append(orders, append([]T{list[i]}, rest...))
		}
	}
	return orders
}

func TestRecordKnown(t *testing.T) {
	if kinds := [5]int64{impl.TySoa, impl.TyNs, impl.TyA, impl.TySrv, impl.TyKey}; kinds != [5]int64{1, 2, 3, 4, 5} || impl.MaxTtl != 100 {
		t.Error(kinds, impl.MaxTtl)
	}
	list := []impl.Rr{rr("b.zone", impl.TyA, 5, "2"), rr("zone", impl.TyNs, 9, ""), rr("b.zone", impl.TyA, 3, "1"), rr("b.zone", impl.TyA, 7, "2"), rr("zone", impl.TySoa, 0, "soa of zone"), rr("a.b.zone", impl.TyKey, 100, "k"), rr("z.a.zone", impl.TySrv, 8, "s")}
	want := []impl.Rr{rr("zone", 1, 0, "soa of zone"), rr("zone", 2, 9, ""), rr("z.a.zone", 4, 8, "s"), rr("b.zone", 3, 3, "1"), rr("b.zone", 3, 3, "2"), rr("a.b.zone", 5, 100, "k")}
	if got := impl.Sorted(list); !sameRrs(got, want) {
		t.Errorf("Sorted %v", got)
	}
	if impl.RecordsOk(list) || !impl.RecordsOk(want) {
		t.Error("RecordsOk")
	}
	if got := impl.SetOf(want, "b.zone", impl.TyA); !sameRrs(got, want[3:5]) {
		t.Errorf("SetOf %v", got)
	}
	if got := impl.Canon(want); got != "zone 1 0 11 soa of zone\nzone 2 9 0 \nz.a.zone 4 8 1 s\nb.zone 3 3 1 1\nb.zone 3 3 1 2\na.b.zone 5 100 1 k\n" {
		t.Errorf("Canon %q", got)
	}
	if got := impl.Canon([]impl.Rr{rr("", 1, 100, "")}); got != " 1 100 0 \n" {
		t.Errorf("Canon of the root %q", got)
	}
}

func TestRrAtItsEdges(t *testing.T) {
	for _, name := range someNames() {
		if !impl.RrOk(rr(name, 3, 5, "t")) {
			t.Errorf("%q is not right", name)
		}
	}
	for kind := int64(1); kind <= 5; kind++ {
		for ttl := int64(0); ttl <= 100; ttl++ {
			if !impl.RrOk(rr("zone", kind, ttl, "")) {
				t.Errorf("Type %d, Ttl %d is not right", kind, ttl)
			}
		}
	}
	for _, text := range rrTexts() {
		if !impl.RrOk(rr("", 5, 100, text)) {
			t.Errorf("%q is not right", text)
		}
	}
	for long := range 140 {
		if got := impl.RrOk(rr("zone", 3, 5, strings.Repeat("x", long))); got != (long <= 60) {
			t.Errorf("a Text of %d bytes: %v", long, got)
		}
	}
	for number := int64(-300); number <= 600; number++ {
		if got := impl.RrOk(rr("zone", number, 5, "t")); got != (1 <= number && number <= 5) {
			t.Errorf("Type %d: %v", number, got)
		}
		if got := impl.RrOk(rr("zone", 3, number, "t")); got != (0 <= number && number <= 100) {
			t.Errorf("Ttl %d: %v", number, got)
		}
	}
}

func TestNoRr(t *testing.T) {
	for _, r := range noRrs() {
		if rrByWords(r) {
			t.Fatalf("the test's own %.70v is right", r)
		}
		if impl.RrOk(r) {
			t.Errorf("%.70v is right", r)
		}
	}
	for _, name := range noNames() {
		if impl.RrOk(rr(name, 3, 5, "t")) {
			t.Errorf("%.70q is right", name)
		}
	}
}

// A wrong one at each place of a list, whatever else is there, and where it would stand in order.
func TestNoRrInAList(t *testing.T) {
	lists := [][]impl.Rr{{}, {rr("a", 3, 5, "t")}, {rr("a", 3, 5, "t"), rr("c", 3, 5, "t")}, {rr("a", 3, 5, "t"), rr("b", 1, 5, "t"), rr("b", 5, 5, "t"), rr("c", 3, 5, "t")}, {rr("b", 3, 5, "s"), rr("b", 3, 5, "u")}, manyRrs(59)}
	for _, list := range lists {
		for _, wrong := range noRrs() {
			for at := range len(list) + 1 {
				askAreNotRight(t, fmt.Sprintf("%.70v at %d of %d", wrong, at, len(list)), slices.Insert(slices.Clone(list), at, wrong))
			}
		}
	}
	for _, name := range noNames() {
		for at := range 3 {
			list := slices.Insert([]impl.Rr{rr("a", 3, 5, "t"), rr("c", 3, 5, "t")}, at, rr(name, 3, 5, "t"))
			askAreNotRight(t, fmt.Sprintf("%.70q at %d", name, at), list)
		}
	}
}

// Where all of a Name and Type share a wrong Ttl, nothing but that is wrong.
func TestNoTtlOfAll(t *testing.T) {
	for _, ttl := range []int64{-1, 101, math.MaxInt64, math.MinInt64} {
		askAreNotRight(t, fmt.Sprintf("Ttl %d", ttl), []impl.Rr{rr("b", 3, ttl, "t"), rr("b", 3, ttl, "u"), rr("b", 3, ttl, "v")})
	}
}

func TestNoRecords(t *testing.T) {
	for what, list := range noRecords() {
		askAreNoRecords(t, what, list)
		if recordsByPairs(list) || len(sortedByKeys(list)) == 0 {
			t.Fatalf("%s: the test's own list", what)
		}
		if got := impl.Sorted(list); !sameRrs(got, sortedByKeys(list)) {
			t.Errorf("%s: Sorted %v", what, got)
		}
	}
}

func TestRecordsAtTheirEdges(t *testing.T) {
	for _, list := range edgeRecords() {
		if !recordsByPairs(list) {
			t.Fatalf("the test's own %.200v are no Records", list)
		}
		askRecords(t, list)
	}
}

func TestRecordsOfNone(t *testing.T) {
	for _, list := range [][]impl.Rr{nil, {}} {
		if !impl.RecordsOk(list) || len(impl.Sorted(list)) != 0 || impl.Canon(list) != "" || len(impl.SetOf(list, "", impl.TySoa)) != 0 {
			t.Error("none")
		}
	}
}

func TestRecordsAsManyAsAny(t *testing.T) {
	list := manyRrs(60)
	if !impl.RecordsOk(list) || !sameRrs(impl.Sorted(list), list) || impl.Canon(list) != canonByPrint(list) || len(impl.SetOf(list, "n-007.zone", 2)) != 2 {
		t.Error("60")
	}
	for _, n := range []int{61, 62, 120, 1000} {
		askAreNotRight(t, fmt.Sprint(n), manyRrs(n))
	}
	for at := range 61 {
		alike := slices.Insert(slices.Clone(list), at, list[min(at, 59)])
		askAreNotRight(t, fmt.Sprintf("61, two alike at %d", at), alike)
	}
	r := rr("zone", 3, 5, "t")
	if got := impl.Sorted(slices.Repeat([]impl.Rr{r}, 60)); !sameRrs(got, []impl.Rr{r}) {
		t.Errorf("60 that are alike: %v", got)
	}
	askAreNotRight(t, "61 that are alike", slices.Repeat([]impl.Rr{r}, 61))
}

func TestRecordsAsTheChapterSays(t *testing.T) {
	t.Parallel()
	for _, list := range slices.Concat(drawnRrs(), shortRrs(4)) {
		askRecords(t, list)
		askRecords(t, impl.Sorted(list))
	}
}

// Promise 7: Records come out, the same ones in whatever order they were.
func TestPromise7WhateverOrder(t *testing.T) {
	t.Parallel()
	for _, list := range slices.Concat(edgeRecords(), drawnRrs()) {
		want := impl.Sorted(list)
		if !impl.RecordsOk(want) || allRight(list) && len(list) > 0 && len(want) == 0 {
			t.Fatalf("%.500v: Sorted %.500v", list, want)
		}
		for _, other := range inOrders(list) {
			if got := impl.Sorted(other); !sameRrs(got, want) {
				t.Fatalf("%.500v: Sorted %.500v, in another order %.500v", other, got, want)
			}
		}
	}
}

func TestPromise7EachOrderOfAFew(t *testing.T) {
	few := [][]impl.Rr{
		{rr("b", 3, 5, "t"), rr("b", 3, 4, "t"), rr("b", 3, 6, "t")},
		{rr("b", 3, 5, "t"), rr("b", 3, 4, "u"), rr("b", 3, 6, "v"), rr("b", 2, 3, "t"), rr("b", 4, 2, "t")},
		{rr("b", 3, 5, "t"), rr("b", 3, 5, "u"), rr("b", 3, 4, "u"), rr("a.b", 3, 1, "u"), rr("", 3, 0, "u")},
		{rr("a", 1, 9, "t"), rr("b", 1, 8, "t"), rr("a.b", 1, 7, "t"), rr("a.a", 1, 6, "t"), rr("a-", 1, 5, "t"), rr("", 1, 4, "t")},
		{rr("b", 3, 0, ""), rr("b", 3, 100, "\x00"), rr("b", 3, 100, "\n"), rr("b", 3, 100, " "), rr("b", 3, 100, "\xff"), rr("b", 3, 100, "")},
	}
	for _, list := range few {
		want := sortedByKeys(list)
		for _, other := range eachOrder(list) {
			if got := impl.Sorted(other); !sameRrs(got, want) || !impl.RecordsOk(got) {
				t.Fatalf("%v: Sorted %v", other, got)
			}
		}
	}
}

// Promise 7: Records are Sorted already.
func TestPromise7SortedAgain(t *testing.T) {
	for _, list := range slices.Concat(edgeRecords(), drawnRrs(), shortRrs(3)) {
		once := impl.Sorted(list)
		if again := impl.Sorted(once); !sameRrs(again, once) {
			t.Fatalf("%.500v: Sorted %.500v, then %.500v", list, once, again)
		}
		if impl.RecordsOk(list) && !sameRrs(once, list) {
			t.Fatalf("%.500v are Records, Sorted %.500v", list, once)
		}
	}
}

// Promise 7: each that was handed in is there once, and nothing else is.
func TestPromise7EachOnce(t *testing.T) {
	for _, list := range slices.Concat(edgeRecords(), drawnRrs(), shortRrs(3)) {
		if !allRight(list) {
			continue
		}
		in, out := map[rrOf]bool{}, map[rrOf]int{}
		for _, r := range list {
			in[rrOf{r.Name, r.Type, r.Text}] = true
		}
		got := impl.Sorted(list)
		for _, r := range got {
			out[rrOf{r.Name, r.Type, r.Text}]++
		}
		for one := range in {
			if out[one] != 1 {
				t.Fatalf("%.500v: Sorted %.500v, %v is there %d times", list, got, one, out[one])
			}
		}
		if len(out) != len(in) {
			t.Fatalf("%.500v: Sorted %.500v has others", list, got)
		}
	}
}

// The least Ttl counts wherever it is: on the first, on the last, and on one that has stood already.
func TestSortedLeastTtl(t *testing.T) {
	for least := range 5 {
		list := []impl.Rr{rr("b", 3, 9, "s"), rr("b", 3, 8, "t"), rr("b", 3, 9, "u"), rr("b", 3, 9, "t"), rr("b", 3, 8, "s"), rr("b", 2, 1, "s"), rr("b", 4, 7, "s"), rr("a", 3, 0, "s"), rr("c", 3, 100, "s")}
		list[least].Ttl = 5
		want := []impl.Rr{rr("a", 3, 0, "s"), rr("b", 2, 1, "s"), rr("b", 3, 5, "s"), rr("b", 3, 5, "t"), rr("b", 3, 5, "u"), rr("b", 4, 7, "s"), rr("c", 3, 100, "s")}
		if got := impl.Sorted(list); !sameRrs(got, want) {
			t.Errorf("the least at %d: Sorted %v", least, got)
		}
	}
	for _, pair := range [][2]int64{{0, 100}, {100, 0}, {0, 0}, {100, 100}, {0, 1}, {99, 100}} {
		want := min(pair[0], pair[1])
		for _, texts := range [][2]string{{"t", "t"}, {"t", "u"}, {"u", "t"}} {
			for _, r := range impl.Sorted([]impl.Rr{rr("b", 3, pair[0], texts[0]), rr("b", 3, pair[1], texts[1])}) {
				if r.Ttl != want {
					t.Errorf("Ttls %v, Texts %v: %d", pair, texts, r.Ttl)
				}
			}
		}
	}
}

func TestSetOf(t *testing.T) {
	list := []impl.Rr{rr("", 1, 0, ""), rr("zone", 1, 9, "s"), rr("zone", 2, 8, ""), rr("zone", 2, 8, "n"), rr("a.zone", 3, 5, "1"), rr("b.zone", 3, 5, "1"), rr("b.zone", 3, 5, "2"), rr("b.zone", 3, 5, "3"), rr("b.zone", 5, 6, "k")}
	want := map[rrSet][]impl.Rr{{"", 1}: list[:1], {"zone", 1}: list[1:2], {"zone", 2}: list[2:4], {"a.zone", 3}: list[4:5], {"b.zone", 3}: list[5:8], {"b.zone", 5}: list[8:]}
	for _, name := range []string{"", "zone", "a.zone", "b.zone", "c.zone", "one", "a", "b", "a.b.zone"} {
		for kind := int64(-1); kind <= 7; kind++ {
			got := impl.SetOf(list, name, kind)
			if !sameRrs(got, want[rrSet{name, kind}]) {
				t.Errorf("SetOf %q %d is %v", name, kind, got)
			}
			if !impl.RecordsOk(got) {
				t.Errorf("SetOf %q %d are no Records", name, kind)
			}
		}
	}
	for _, kind := range []int64{0, 6, -3, 256 + 3, 1<<32 + 3, math.MaxInt64, math.MinInt64, math.MinInt64 + 3} {
		if got := impl.SetOf(list, "b.zone", kind); len(got) != 0 {
			t.Errorf("SetOf kind %d is %v", kind, got)
		}
	}
	for _, name := range append(noNames(), "B.zone", "b.zone.", ".b.zone", "*.zone", "b.zone ", "b.zone\x00") {
		for kind := int64(0); kind <= 6; kind++ {
			if got := impl.SetOf(list, name, kind); len(got) != 0 {
				t.Errorf("SetOf %.70q %d is %v", name, kind, got)
			}
		}
	}
}

// The sets of Records, one behind the other, are the Records.
func TestSetsAreTheRecords(t *testing.T) {
	for _, list := range slices.Concat(edgeRecords(), drawnRrs()) {
		list = impl.Sorted(list)
		all := []impl.Rr{}
		for i, r := range list {
			if i == 0 || list[i-1].Name != r.Name || list[i-1].Type != r.Type {
				all = append(all, impl.SetOf(list, r.Name, r.Type)...)
			}
		}
		if !sameRrs(all, list) {
			t.Fatalf("%.500v: the sets are %.500v", list, all)
		}
	}
}

// What Canon tells can be read in one way alone, whatever a Text looks like.
func TestCanonIsReadBack(t *testing.T) {
	seen := map[string][]impl.Rr{}
	for _, list := range slices.Concat(edgeRecords(), drawnRrs(), shortRrs(4)) {
		list = impl.Sorted(list)
		text := impl.Canon(list)
		if got, ok := canonRead(text); !ok || !sameRrs(got, list) {
			t.Fatalf("%.500v: Canon %q reads %v, %.500v", list, text, ok, got)
		}
		if other, known := seen[text]; known && !sameRrs(other, list) {
			t.Fatalf("%.500v and %.500v have one Canon", list, other)
		}
		seen[text] = list
	}
}

// roomyOf is the list at the front of an array that has marked room behind it, and all of that.
func roomyOf[T any](list []T, room int, mark T) ([]T, []T) {
	all := slices.Concat(list, slices.Repeat([]T{mark}, room))
	return all[:len(list)], all
}

// recordArguments are right and wrong ones, in order and not.
func recordArguments() [][]impl.Rr {
	lists := slices.Concat(edgeRecords(), drawnRrs()[:60], shortRrs(2), [][]impl.Rr{manyRrs(61)})
	for _, list := range noRecords() {
		lists = append(lists, list)
	}
	for _, wrong := range noRrs() {
		lists = append(lists, []impl.Rr{rr("a", 3, 5, "t"), wrong, rr("c", 3, 5, "t")})
	}
	return lists
}

// aSetOf is a Name and Type that stand in the list, where it has any.
func aSetOf(list []impl.Rr) (string, int64) {
	if len(list) == 0 {
		return "zone", impl.TyA
	}
	r := list[len(list)/2]
	return r.Name, r.Type
}

// Promise 21 of chapter 7: nothing is written into an argument or the room behind it, its order stays, and no answer lies there.
func TestPromise21RecordArgumentsStay(t *testing.T) {
	mark := rr("room", -7, -7, "room")
	for i, list := range recordArguments() {
		for _, room := range []int{0, 1, 70} {
			front, all := roomyOf(list, room, mark)
			before := slices.Clone(all)
			name, kind := aSetOf(list)
			impl.RecordsOk(front)
			impl.Canon(front)
			sorted, set := impl.Sorted(front), impl.SetOf(front, name, kind)
			if !sameRrs(all, before) {
				t.Fatalf("list %d with room for %d: something was written", i, room)
			}
			scribbleOn(sorted, rr("scribble", -9, -9, "scribble"))
			scribbleOn(set, rr("scribble", -9, -9, "scribble"))
			if !sameRrs(all, before) {
				t.Fatalf("list %d with room for %d: an answer shares memory", i, room)
			}
		}
	}
}

// Promise 21: an argument that is written to later changes no answer.
func TestPromise21RecordAnswersStay(t *testing.T) {
	for i, list := range recordArguments() {
		front, all := roomyOf(list, 3, impl.Rr{})
		name, kind := aSetOf(list)
		sorted, set, canon := impl.Sorted(front), impl.SetOf(front, name, kind), impl.Canon(front)
		wantSorted, wantSet, wantCanon := slices.Clone(sorted), slices.Clone(set), strings.Clone(canon)
		scribbleOn(all, rr("scribble", -9, -9, "scribble"))
		if !sameRrs(sorted, wantSorted) || !sameRrs(set, wantSet) || canon != wantCanon {
			t.Fatalf("list %d: an answer shares memory", i)
		}
	}
}

// Promise 21: two answers to one list, and answers out of answers, have nothing in common.
func TestPromise21RecordAnswersAreApart(t *testing.T) {
	mark := rr("scribble", -9, -9, "scribble")
	for i, list := range recordArguments() {
		first, second := impl.Sorted(list), impl.Sorted(list)
		name, kind := aSetOf(list)
		again, set, other := impl.Sorted(first), impl.SetOf(first, name, kind), impl.SetOf(first, name, kind)
		want, wantSet := slices.Clone(second), slices.Clone(other)
		scribbleOn(first, mark)
		if !sameRrs(second, want) || !sameRrs(again, want) || !sameRrs(set, wantSet) {
			t.Fatalf("list %d: two answers share memory", i)
		}
		scribbleOn(append(set, mark), mark)
		scribbleOn(set, mark)
		if !sameRrs(other, wantSet) || !sameRrs(again, want) {
			t.Fatalf("list %d: two answers of SetOf share memory", i)
		}
		scribbleOn(again, mark)
		if !sameRrs(second, want) || !sameRrs(impl.Sorted(list), want) {
			t.Fatalf("list %d: two answers of Sorted share memory", i)
		}
	}
}

// Promise 21: each argument gets the same answer again.
func TestPromise21RecordAgain(t *testing.T) {
	lists := recordArguments()
	answers := func(list []impl.Rr) string {
		name, kind := aSetOf(list)
		return fmt.Sprintf("%v %#v %#v %q", impl.RecordsOk(list), impl.Sorted(list), impl.SetOf(list, name, kind), impl.Canon(list))
	}
	first := []string{}
	for _, list := range lists {
		first = append(first, answers(list))
	}
	for i, list := range slices.Backward(lists) {
		if got := answers(list); got != first[i] {
			t.Fatalf("list %d: %.500s, then %.500s", i, first[i], got)
		}
	}
}
