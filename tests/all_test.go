package tests

import (
	"fmt"
	"go/ast"
	"go/parser"
	"go/token"
	"maps"
	"math"
	"path/filepath"
	"reflect"
	"slices"
	"strconv"
	"strings"
	"sync"
	"testing"

	"loop.example/g00307/impl"
)

// everyFunction are all functions of the document.
var everyFunction = map[string]any{
	"ElementOk": impl.ElementOk, "Sum": impl.Sum, "Less": impl.Less, "Product": impl.Product, "Power": impl.Power, "Inverse": impl.Inverse, "Root": impl.Root,
	"PointOk": impl.PointOk, "Nought": impl.Nought, "Base": impl.Base, "Added": impl.Added, "Opposite": impl.Opposite, "Times": impl.Times,
	"Hash": impl.Hash, "KeyOf": impl.KeyOf, "Challenge": impl.Challenge, "Signed": impl.Signed, "Valid": impl.Valid,
	"LogOk": impl.LogOk, "Noted": impl.Noted, "Head": impl.Head, "Same": impl.Same,
	"NameOk": impl.NameOk, "Labels": impl.Labels, "Parent": impl.Parent, "Under": impl.Under, "Before": impl.Before, "Star": impl.Star,
	"Packed": impl.Packed, "Unpacked": impl.Unpacked, "Plain": impl.Plain,
	"RrOk": impl.RrOk, "RecordsOk": impl.RecordsOk, "Sorted": impl.Sorted, "SetOf": impl.SetOf, "Canon": impl.Canon,
	"ZoneOk": impl.ZoneOk, "Owners": impl.Owners, "Denies": impl.Denies, "Denial": impl.Denial, "Proves": impl.Proves, "Found": impl.Found,
	"SealOf": impl.SealOf, "Holds": impl.Holds, "KeysText": impl.KeysText, "DsOf": impl.DsOf, "Trusted": impl.Trusted,
	"RollOk": impl.RollOk, "NewRoll": impl.NewRoll, "Step": impl.Step, "Served": impl.Served, "Signing": impl.Signing,
	"EntryOk": impl.EntryOk, "BookOk": impl.BookOk, "Newer": impl.Newer, "Joined": impl.Joined, "Written": impl.Written, "ValueOf": impl.ValueOf, "Alive": impl.Alive,
	"MembersOk": impl.MembersOk, "Stronger": impl.Stronger, "Merged": impl.Merged, "Doubted": impl.Doubted, "Dropped": impl.Dropped, "Back": impl.Back,
	"GroupOk": impl.GroupOk, "Told": impl.Told, "Around": impl.Around, "Agreed": impl.Agreed, "Whole": impl.Whole,
	"RulesOk": impl.RulesOk, "RuleFor": impl.RuleFor, "May": impl.May, "ShowRules": impl.ShowRules, "ReadRules": impl.ReadRules,
	"BucketsOk": impl.BucketsOk, "Drawn": impl.Drawn, "LeftFor": impl.LeftFor,
	"RulesOf": impl.RulesOf, "Seen": impl.Seen, "ZoneFor": impl.ZoneFor, "Lets": impl.Lets,
	"NodeOk": impl.NodeOk, "NewNode": impl.NewNode, "Respond": impl.Respond, "AnswerText": impl.AnswerText, "DeedOf": impl.DeedOf, "Secure": impl.Secure,
	"ClusterOk": impl.ClusterOk, "NewCluster": impl.NewCluster, "Happen": impl.Happen, "Play": impl.Play, "Settled": impl.Settled,
	"Blind": impl.Blind, "Asked": impl.Asked, "Complete": impl.Complete,
	"Bench": impl.Bench,
}

// What is asked below is asked of all: the program has no face that is left out.
func TestEveryFunctionIsAsked(t *testing.T) {
	files, _ := filepath.Glob("../impl/*.go")
	if len(files) != 20 {
		t.Fatalf("%d layers", len(files))
	}
	for _, file := range files {
		layer, err := parser.ParseFile(token.NewFileSet(), file, nil, 0)
		if err != nil {
			t.Fatal(err)
		}
		for _, d := range layer.Decls {
			f, is := d.(*ast.FuncDecl)
			if is && f.Recv == nil && f.Name.IsExported() && everyFunction[f.Name.Name] == nil {
				t.Errorf("%s of %s is not asked", f.Name.Name, file)
			}
		}
	}
}

// laidOut is a copy down to each list, with marked room behind each.
func laidOut(v reflect.Value, room int) reflect.Value {
	made := reflect.New(v.Type()).Elem()
	switch v.Kind() {
	case reflect.Slice:
		made.Set(reflect.MakeSlice(v.Type(), v.Len(), v.Len()+room))
		for i := range v.Len() {
			made.Index(i).Set(laidOut(v.Index(i), room))
		}
		for i := range room {
			made.Slice(0, v.Len()+room).Index(v.Len() + i).Set(markOf(v.Type().Elem()))
		}
	case reflect.Struct:
		for i := range v.NumField() {
			made.Field(i).Set(laidOut(v.Field(i), room))
		}
	default:
		made.Set(v)
	}
	return made
}

// markOf is what no function would write of itself.
func markOf(t reflect.Type) reflect.Value {
	mark := reflect.New(t).Elem()
	switch t.Kind() {
	case reflect.Struct:
		for i := range t.NumField() {
			mark.Field(i).Set(markOf(t.Field(i).Type))
		}
	case reflect.Slice:
		mark.Set(reflect.Append(mark, markOf(t.Elem())))
	case reflect.String:
		mark.SetString("room")
	case reflect.Int64:
		mark.SetInt(-7)
	case reflect.Bool:
		mark.SetBool(true)
	}
	return mark
}

// shownValue tells all of a value; whole tells also where each list lies, and the room behind it.
func shownValue(text []byte, v reflect.Value, whole bool) []byte {
	switch v.Kind() {
	case reflect.Slice:
		text = strconv.AppendInt(append(text, '['), int64(v.Len()), 10)
		if whole {
			text = strconv.AppendUint(append(text, '@'), uint64(v.Pointer()), 16)
			v = v.Slice(0, v.Cap())
		}
		for i := range v.Len() {
			text = shownValue(append(text, ' '), v.Index(i), whole)
		}
		return append(text, ']')
	case reflect.Struct:
		text = append(text, '{')
		for i := range v.NumField() {
			text = append(shownValue(text, v.Field(i), whole), ' ')
		}
		return append(text, '}')
	case reflect.String:
		return strconv.AppendQuote(text, v.String())
	case reflect.Int64:
		return strconv.AppendInt(text, v.Int(), 10)
	}
	return strconv.AppendBool(text, v.Bool())
}

func shownAll(list []reflect.Value, whole bool) string {
	text := []byte{}
	for _, v := range list {
		text = append(shownValue(text, v, whole), '\n')
	}
	return string(text)
}

// A stretch is the memory of one list, with the room behind it.
type stretch struct{ from, to uintptr }

func stretchesOf(v reflect.Value) []stretch {
	list := []stretch{}
	switch v.Kind() {
	case reflect.Slice:
		if v.Cap() > 0 {
			list = append(list, stretch{v.Pointer(), v.Pointer() + uintptr(v.Cap())*v.Type().Elem().Size()})
		}
		for i := range v.Len() {
			list = append(list, stretchesOf(v.Index(i))...)
		}
	case reflect.Struct:
		for i := range v.NumField() {
			list = append(list, stretchesOf(v.Field(i))...)
		}
	}
	return list
}

func stretchesOfAll(values ...reflect.Value) []stretch {
	list := []stretch{}
	for _, v := range values {
		list = append(list, stretchesOf(v)...)
	}
	return list
}

// lieApart asks that none of these shares a byte with another one of them, or with one of the others, which may share among themselves.
func lieApart(list, others []stretch) bool {
	for i, a := range list {
		for _, b := range slices.Concat(list[:i], others) {
			if a.from < b.to && b.from < a.to {
				return false
			}
		}
	}
	return true
}

// A kept value was given or answered; it is to stay as it was then.
type kept struct {
	value reflect.Value
	was   string
}

// A store has of each kind what functions are asked with: what was there at first, and what was answered since.
type store struct {
	draw  func(int) int
	kinds map[reflect.Type][]kept
	first map[reflect.Type]int
}

const mostKept = 40

func newStore(seed uint32) *store {
	s := &store{drawFrom(seed), map[reflect.Type][]kept{}, map[reflect.Type]int{}}
	for _, list := range firstValues() {
		all := reflect.ValueOf(list)
		for i := range all.Len() {
			s.put(laidOut(all.Index(i), s.draw(3)))
		}
	}
	for kind, list := range s.kinds {
		s.first[kind] = len(list)
	}
	return s
}

// put keeps all that was there at first, and of the rest as much as there is room for.
func (s *store) put(v reflect.Value) {
	kind, one := v.Type(), kept{v, shownAll([]reflect.Value{v}, true)}
	if over := len(s.kinds[kind]) - s.first[kind]; s.first[kind] > 0 && over >= mostKept {
		s.kinds[kind][s.first[kind]+s.draw(over)] = one
		return
	}
	s.kinds[kind] = append(s.kinds[kind], one)
}

// putParts keeps copies of what a value is made of, so that functions are asked with what others answered.
func (s *store) putParts(v reflect.Value) {
	if s.draw(3) == 0 {
		s.put(laidOut(v, s.draw(3)))
	}
	switch v.Kind() {
	case reflect.Slice:
		if v.Len() > 0 {
			s.putParts(v.Index(s.draw(v.Len())))
		}
	case reflect.Struct:
		s.putParts(v.Field(s.draw(v.NumField())))
	}
}

// arguments are drawn; some have one and the same list twice.
func (s *store) arguments(f reflect.Type) []reflect.Value {
	list := []reflect.Value{}
	for i := range f.NumIn() {
		kind := f.In(i)
		v := s.kinds[kind][s.draw(len(s.kinds[kind]))].value
		if i > 0 && list[i-1].Type() == kind && s.draw(4) == 0 {
			v = list[i-1]
		}
		list = append(list, v)
	}
	return list
}

// askStay wants all that is kept to be as it was.
func (s *store) askStay(t *testing.T) {
	t.Helper()
	for kind, list := range s.kinds {
		for _, one := range list {
			if now := shownAll([]reflect.Value{one.value}, true); now != one.was {
				t.Fatalf("a %v was %.600s, and is %.600s", kind, one.was, now)
			}
		}
	}
}

// someOf are at most n of a list, spread over it.
func someOf[T any](list []T, n int) []T {
	some := []T{}
	for i := 0; i < len(list); i += 1 + len(list)/n {
		some = append(some, list[i])
	}
	return some
}

// firstValues are right and wrong ones of each kind that goes in.
func firstValues() []any {
	key, _ := impl.KeyOf(5)
	sig, _ := impl.Signed(5, "a")
	node, c := plainNode(), plainCluster(2)
	deed, _ := impl.DeedOf(node, 1000)
	next, answer := impl.Respond(node, ask("a.zone"), 50)
	_, none := impl.Respond(node, ask("zone"), 50)
	zone, _ := impl.ZoneFor(node.Replica.Book, "ann", "zone")
	acts := clusterActs(c)
	long := strings.Repeat("a", 101)
	return []any{
		[]int64{0, 1, 2, 3, 3, 4, 5, 7, 8, 50, 99, 100, 150, 500, 2548, 2549, 10006, 10007, 1000000, 1000001, 1 << 40, 1<<40 + 1, -1, math.MinInt64, math.MaxInt64},
		[]string{"", "a", "b.c", "zone", "zone", "a.zone", "x.zone", "b.c.zone", "ann", "ann", "bob", "root", "svc/a", "svc/b", "acl/ann", "r- svc/", "rw svc/ -- svc/b", "1", "\x01a\x00", "\x01a\x00\x01b\xc0\x00", "\xff", long, long[:60], strings.Join(benchStory, "\n"), "tick\ntick\nwhat"},
		[]bool{false, true},
		[]impl.Point{{}, impl.Nought(), impl.Base(), key, {X: -1, Y: 1}}, []impl.Sig{{}, sig, {R: impl.Base(), T: 2549}},
		[][]impl.Line{nil, {}, linesOf("a"), linesOf("a", "b"), linesOf("a", "c", ""), fullLog(9), fullLog(299), fullLog(300), {{Text: "a", Sum: 1}}},
		[][]string{nil, {"a"}, {"a.b", "b", "c.a.b"}, {"", ""}, {"A"}, slices.Repeat([]string{"a"}, 20), slices.Repeat([]string{"a"}, 21)},
		[]impl.Rr{{}, rr("a", 3, 5, "t"), rr("zone", 1, 10, "soa"), rr("A", 3, 5, "t")}, someOf(edgeRecords(), 8), [][]impl.Rr{zone.Records, manyRrs(60), manyRrs(61), {rr("b", 3, 5, "t"), rr("a", 3, 5, "t"), rr("a", 3, 4, "u")}},
		append(someOf(edgeZones(), 8), zone, impl.Zone{}, impl.Zone{Apex: "zone"}), someOf(impl.Denies(zone), 4), []impl.Deny{{}, {Owner: "A"}},
		[]impl.Seal{{}, answer.Seal, deed.Seal}, [][]impl.Point{nil, {key}, {key, impl.Base(), impl.Nought(), key}, slices.Repeat([]impl.Point{key}, 5), {{}}}, []impl.Deed{{}, deed, {Zone: "A", Keys: deed.Keys, Seal: deed.Seal}},
		append(phaseRolls(), impl.Roll{}, rollOf(1, 7, 8, 9, 0)), []impl.Entry{{}, acl("ann", "rw svc/"), svc("a", "9"), goneEntry("svc/a", 9, 1), entry("svc/new", "v", 1000000, 7), entry("", "v", 1, 0)},
		append(someOf(someBooks(), 12), node.Replica.Book, manyEntries(80), manyEntries(81), []impl.Entry{{}}), []impl.Member{{}, member(3, 1, 1), member(3, 1, 2), member(-1, 0, 0)},
		append(someOf(someMembers(), 12), manyMembers(0, 8), []impl.Member{{}, {}}), append(someOf(someGroups(), 12), groupOf(c), nil, make([]impl.Replica, 7)),
		[][]impl.Rule{nil, {}, {rule("r-", "svc/")}, {rule("rw", ""), rule("--", "svc/b")}, manyRules(12), manyRules(13), {rule("r-", "b"), rule("r-", "a")}},
		[][]impl.Bucket{nil, manyBuckets(3), manyBuckets(20), manyBuckets(21), {bucket(3, 0, 50)}, {bucket(-1, 0, 0)}}, []impl.Node{{}, node, next, c.Nodes[1], {Apex: "zone"}},
		[]impl.Query{{}, ask("a.zone"), ask("x.zone"), ask("zone"), ask("a"), {Token: "ann", Name: "a.zone", Type: 3}, {Source: 100}}, []impl.Answer{{}, answer, none, {Code: 5}, {Cut: true}},
		[]impl.Cluster{{}, c, mustNewCluster("zone", 1), mustNewCluster("a", 4), clusterOf(manyEntries(80), nil), {Now: -1}}, acts, [][]impl.Act{nil, acts, acts[:3], slices.Repeat(acts, 10)},
	}
}

func mustNewCluster(apex string, nodes int64) impl.Cluster {
	c, _ := impl.NewCluster(apex, nodes)
	return c
}

// meantTogether are arguments of functions that seldom say yes to what is drawn.
func meantTogether() map[string][]reflect.Value {
	key, _ := impl.KeyOf(5)
	sig, _ := impl.Signed(5, "a")
	node := plainNode()
	deed, _ := impl.DeedOf(node, 1000)
	_, answer := impl.Respond(node, ask("a.zone"), 50)
	text, ds, now := impl.AnswerText(answer), impl.DsOf(deed), int64(50)
	book := bookOf(append(node.Replica.Book, acl("ann", "rw svc/"))...)
	zone, _ := impl.ZoneFor(book, "ann", "zone")
	rows := map[string][]any{
		"Valid": {key, "a", sig}, "Holds": {answer.Seal, text, now}, "Trusted": {ds, deed, answer.Seal, text, now}, "Secure": {ds, deed, answer, now},
		"Proves": {impl.Deny{Owner: "zone", Next: "a.zone", Types: []int64{1, 2}}, "zone", "zone", int64(3)},
		"SetOf":  {zone.Records, "a.zone", int64(3)}, "Found": {zone, "a.zone", int64(3)}, "Denial": {zone, "x.zone", int64(3)},
		"RulesOf": {book, "ann"}, "Seen": {book, "ann"}, "ZoneFor": {book, "ann", "zone"}, "Lets": {book, "ann", "svc/a", true}, "Bench": {strings.Join(benchStory, "\n")},
	}
	meant := map[string][]reflect.Value{}
	for name, row := range rows {
		for _, v := range row {
			meant[name] = append(meant[name], laidOut(reflect.ValueOf(v), 2))
		}
	}
	return meant
}

// called is what a function answers; a panic ends the test.
func called(t *testing.T, name string, list []reflect.Value) []reflect.Value {
	t.Helper()
	defer func() {
		if why := recover(); why != nil {
			t.Fatalf("%s(%.900s): %v", name, shownAll(list, false), why)
		}
	}()
	return reflect.ValueOf(everyFunction[name]).Call(list)
}

// askOne calls a function twice: the arguments stay, both answers are the same, and lie apart from all else.
func askOne(t *testing.T, name string, list []reflect.Value) []reflect.Value {
	t.Helper()
	was := shownAll(list, true)
	first := called(t, name, list)
	again := called(t, name, list)
	if shownAll(list, true) != was {
		t.Fatalf("%s writes into its arguments, which were %.900s", name, was)
	}
	if one, other := shownAll(first, false), shownAll(again, false); one != other {
		t.Fatalf("%s answers %.900s, then %.900s", name, one, other)
	}
	if !lieApart(stretchesOfAll(slices.Concat(first, again)...), stretchesOfAll(list...)) {
		t.Fatalf("%s(%.900s): the lists of its answers share memory", name, shownAll(list, false))
	}
	return first
}

func hasList(list []reflect.Value) bool { return len(stretchesOfAll(list...)) > 0 }

// answersLists says whether a list can be in what a function answers.
func answersLists(f reflect.Type) bool {
	for i := range f.NumOut() {
		if hasList([]reflect.Value{markOf(f.Out(i))}) {
			return true
		}
	}
	return false
}

// Promise 21, of all functions together: each is asked with what others answered; arguments stay, with the room behind them, and answers are new memory.
func TestPromise21AllFunctions(t *testing.T) {
	t.Parallel()
	names, meant := slices.Sorted(maps.Keys(everyFunction)), meantTogether()
	answers, lists := map[string]map[string]int{}, map[string]int{}
	for _, name := range names {
		answers[name] = map[string]int{}
	}
	for run := range 4 {
		s := newStore(uint32(21200 + run))
		for range 120 {
			for _, name := range names {
				list := s.arguments(reflect.TypeOf(everyFunction[name]))
				if meant[name] != nil && s.draw(4) == 0 {
					list = meant[name]
				}
				got := askOne(t, name, list)
				answers[name][shownAll(got, false)]++
				if hasList(got) {
					lists[name]++
				}
				for _, v := range got {
					s.put(v)
					s.putParts(v)
				}
			}
		}
		s.askStay(t)
	}
	for _, name := range names {
		f := reflect.TypeOf(everyFunction[name])
		if f.NumIn() > 0 && len(answers[name]) < 2 {
			t.Errorf("%s says the same to all: %v", name, answers[name])
		}
		// A new Node has nothing in its lists.
		if answersLists(f) && lists[name] < 5 && name != "NewNode" {
			t.Errorf("%s answers %d lists", name, lists[name])
		}
	}
}

// Promise 21, of all functions together: each is asked by many at the same time; .ci/run asks this under the race detector, too.
func TestAtTheSameTimeAllFunctions(t *testing.T) {
	s, meant := newStore(21300), meantTogether()
	for _, name := range slices.Sorted(maps.Keys(everyFunction)) {
		f := everyFunction[name]
		rows := [][]reflect.Value{s.arguments(reflect.TypeOf(f)), s.arguments(reflect.TypeOf(f)), s.arguments(reflect.TypeOf(f))}
		if meant[name] != nil {
			rows = append(rows, meant[name])
		}
		for _, list := range rows {
			want := shownAll(called(t, name, list), false)
			var all sync.WaitGroup
			for range 3 {
				all.Go(func() {
					if got := shownAll(reflect.ValueOf(f).Call(list), false); got != want {
						t.Errorf("%s answers %.600s at the same time, not %.600s", name, got, want)
					}
				})
			}
			all.Wait()
		}
	}
	s.askStay(t)
}

// Promise 21: what is found by the tests above would be found: a list that is shared, or written to, is told from one that is not.
func TestSharedListsAreFound(t *testing.T) {
	list := fullLog(5)
	for what, other := range map[string][]impl.Line{"itself": list, "a part": list[1:3], "its end": list[4:], "the room behind": list[:1]} {
		if lieApart(stretchesOf(reflect.ValueOf(other)), stretchesOf(reflect.ValueOf(list))) {
			t.Errorf("%s lies apart", what)
		}
	}
	c := plainCluster(2)
	c.Nodes[1].Log, c.Nodes[0].Log = list, list
	if lieApart(stretchesOf(reflect.ValueOf(c)), nil) || !lieApart(stretchesOf(laidOut(reflect.ValueOf(c), 2)), stretchesOf(reflect.ValueOf(c))) {
		t.Error("two Logs of one Cluster")
	}
	roomy := laidOut(reflect.ValueOf(c), 1)
	was := shownAll([]reflect.Value{roomy}, true)
	book := roomy.Interface().(impl.Cluster).Nodes[1].Replica.Book
	_ = append(book, scribbled)
	if shownAll([]reflect.Value{roomy}, true) == was {
		t.Error(fmt.Sprint("what is written behind ", len(book), " Entries is not seen"))
	}
}
