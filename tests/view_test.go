package tests

import (
	"fmt"
	"maps"
	"regexp"
	"slices"
	"strings"
	"testing"

	"loop.example/g00307/impl"
)

var (
	tokenPattern   = regexp.MustCompile(`^[a-z]{1,12}$`)
	servicePattern = regexp.MustCompile(`^svc/([a-z0-9-]{1,12}(\.[a-z0-9-]{1,12}){0,5})$`)
)

// rulesOfByWords goes by patterns of whole texts.
func rulesOfByWords(book []impl.Entry, token string) ([]impl.Rule, bool) {
	if !bookByWords(book) || !tokenPattern.MatchString(token) {
		return nil, false
	}
	e, there := entryOf(book, "acl/"+token)
	if !there || e.Gone {
		return nil, false
	}
	return readByWords(e.Value)
}

// nameByWords is the NAME of a Key, empty where it has none.
func nameByWords(key string) string {
	parts := servicePattern.FindStringSubmatch(key)
	if parts == nil || !nameByPattern(parts[1]) {
		return ""
	}
	return parts[1]
}

// seenByWords throws out what may not be seen, where the program takes what may.
func seenByWords(book []impl.Entry, token string) []impl.Entry {
	rules, ok := rulesOfByWords(book, token)
	if !ok {
		return nil
	}
	return slices.DeleteFunc(slices.Clone(book), func(e impl.Entry) bool {
		return e.Gone || nameByWords(e.Key) == "" || !mayByWords(rules, e.Key, false)
	})
}

func zoneForByWords(book []impl.Entry, token, apex string) (impl.Zone, bool) {
	if _, ok := rulesOfByWords(book, token); !ok || apex == "" || !nameByPattern(apex) {
		return impl.Zone{}, false
	}
	list := []impl.Rr{rr(apex, 1, 10, "soa"), rr(apex, 2, 10, "ns")}
	for _, e := range seenByWords(book, token) {
		if name := nameByWords(e.Key) + "." + apex; nameByPattern(name) {
			list = append(list, rr(name, 3, 5, e.Value))
		}
	}
	if len(list) > 60 {
		return impl.Zone{}, false
	}
	slices.SortFunc(list, orderByFields)
	return impl.Zone{Apex: apex, Records: list}, true
}

func letsByWords(book []impl.Entry, token, key string, write bool) bool {
	rules, ok := rulesOfByWords(book, token)
	return ok && mayByWords(rules, key, write)
}

func sameZones(a, b impl.Zone) bool { return a.Apex == b.Apex && sameRrs(a.Records, b.Records) }

// bookOf has these Entries in order, of each Key the last one.
func bookOf(list ...impl.Entry) []impl.Entry {
	byKey := map[string]impl.Entry{}
	for _, e := range list {
		byKey[e.Key] = e
	}
	book := []impl.Entry{}
	for _, key := range slices.Sorted(maps.Keys(byKey)) {
		book = append(book, byKey[key])
	}
	return book
}

func acl(token, value string) impl.Entry { return entry("acl/"+token, value, 5, 3) }

func svc(name, value string) impl.Entry { return entry("svc/"+name, value, 5, 3) }

// without is the book without its Entry at this place.
func without(book []impl.Entry, at int) []impl.Entry {
	return slices.Delete(slices.Clone(book), at, at+1)
}

// with is the book with another Entry at this place.
func with(book []impl.Entry, at int, e impl.Entry) []impl.Entry {
	other := slices.Clone(book)
	other[at] = e
	return other
}

// serviceNames are names that a Key has room for: of one label and of several, close to one another and at the edges.
func serviceNames() []string {
	names := []string{}
	for _, name := range append(edgeNames(), namesFrom(2, closeLabels...)...) {
		if name != "" && len(name) <= 36 {
			names = append(names, name)
		}
	}
	names = append(names, "aaaaaaaaaaaa.bbbbbbbbbbbb.cccccccccc", "b", "b.a", "bb", "c", "svc", "acl", "svc.acl", "zone.zone", "a.b.c.d.e")
	return slices.Compact(slices.Sorted(slices.Values(names)))
}

// otherKeys are no svc/NAME, though some of them look like one.
func otherKeys() []string {
	keys := []string{
		"svc", "svc/", "sv", "s", "svca", "svca/", "svc.a", "svc:a", "svc\x00a", "svc a", "svc//", "svc//a", "svc/a/", "svc/a/b", "svc/svc/a", "/svc/a", " svc/a", "asvc/a", "Svc/a", "SVC/a", "svC/a", "svd/a", "svb/a", "svc\\a", "acl", "acl/", "acl/svc/a", "acl/a.b", "a", "zone", "svc0a", "svc.", "SVC/", "tvc/a", "rvc/a", "\x00svc/a", "svc\xffa", "svc/a\x00",
		"svc/aaaaaaaaaaaaa", "svc/a.aaaaaaaaaaaaa", "svc/a.b.c.d.e.f.g", "svc/" + strings.Repeat("a", 36), "svc/aaaaaaaaaaaa.aaaaaaaaaaaaa",
	}
	for _, bad := range noNames() {
		if key := "svc/" + bad; len(key) <= 40 && len(bad) < 5 {
			keys = append(keys, key)
		}
	}
	return slices.Compact(slices.Sorted(slices.Values(keys)))
}

// viewTokens are right ones, of the least and the greatest length among them.
var viewTokens = []string{"ann", "a", "z", "bob", "root", "svc", "acl", "abcdefghijkl", "mnopqrstuvwx", "yzyzyzyzyzyz"}

// ruleTexts are such as fit into a Value.
func ruleTexts() []string {
	texts := []string{"r- ", "r- svc/", "rw svc/", "-w svc/", "-- svc/", "r- svc", "r- s", "--  r- svc/", "r-  -- svc/", "r- svc/ -- svc/b", "r- svc/ -w svc/b rw svc/bb -- svc/bbb", "-- svc/ r- svc/a", "r- svc/a", "r- acl/ -w svc/", "r- svc/a.b", "r- svc/-", "r- svc/0 r- svc/a0", "rw  -w s r- sv -- svc r- svc/ -- svc/a", "r- svc/ -- svc/a r- svc/aa", "-- acl/ r- svc/ -- svc/z", "r- svc/" + strings.Repeat("z", 12), "r- " + strings.Repeat("s", 37), "-w ", "-- ", "rw "}
	for _, list := range allDrawnRules() {
		if text := showByWords(list); len(text) <= 40 && len(texts) < 150 {
			texts = append(texts, text)
		}
	}
	return slices.DeleteFunc(texts, func(text string) bool { return len(text) > 40 })
}

// unreadable are Values that are told of no Rules.
func unreadable() []string {
	return []string{" ", "  ", "r", "r-", "rw", "svc/", "r- svc/ ", " r- svc/", "r- svc/  -- a", "r- svc/ r-", "wr svc/", "R- svc/", "r-svc/", "r- svc/ r- svc/", "r- svc/b r- svc/a", "r- svc/\n", "r- svc/\x00", "r- sv\xff", "r- é", "r-\tsvc/", "x- svc/", "\x00", "r- svc/ r- ", "rr svc/", "10.0.0.1", strings.Repeat("r", 40), "r- " + strings.Repeat(" ", 37)}
}

// drawnAcl is mostly one that can be read; else it is Gone, of no Rules, or of a Value that can't.
func drawnAcl(draw func(int) int, token string, texts []string) impl.Entry {
	e := entry("acl/"+token, texts[draw(len(texts))], int64(1+draw(9)), int64(draw(8)))
	switch draw(12) {
	case 0:
		e.Value, e.Gone = "", true
	case 1:
		e.Value = ""
	case 2:
		e.Value = unreadable()[draw(len(unreadable()))]
	}
	return e
}

// drawnView is a book with services, Rules of some tokens, and other things.
func drawnView(draw func(int) int, names, others, texts []string, services int) []impl.Entry {
	list := []impl.Entry{}
	for range services {
		list = append(list, kinds("svc/" + names[draw(len(names))])[draw(16)])
	}
	for range draw(10) {
		list = append(list, kinds(others[draw(len(others))])[draw(16)])
	}
	for _, token := range viewTokens {
		if draw(3) > 0 {
			list = append(list, drawnAcl(draw, token, texts))
		}
	}
	return bookOf(list...)
}

// drawnViews are such books, from those with hardly a service to those that are almost full.
func drawnViews() [][]impl.Entry {
	draw := drawFrom(16)
	names, others, texts := serviceNames(), otherKeys(), ruleTexts()
	few := names[:12]
	books := [][]impl.Entry{}
	for range 100 {
		books = append(books,
			drawnView(draw, names, others, texts, draw(4)),
			drawnView(draw, few, others, texts[:20], draw(12)),
			drawnView(draw, names, others, texts[:12], 20+draw(20)),
		)
	}
	for range 10 {
		books = append(books, drawnView(draw, names, others[:5], texts[:8], 70))
	}
	return books
}

var apexes = []string{"zone", "a", "-", "a.b", "b.a.zone", "svc", "a.b.c.d.e", "a.b.c.d.e.f", "zzzzzzzzzzzz", "aaaaaaaaaa.bbbbbbbbbb.cccccccccc.dddddddddd.eeeeeeeeee.ff", "aaaaaaaaaa.bbbbbbbbbb.cccccccccc.dddddddddd.eeeeeeeeee.fffff"}

// askView asks all four of one book, token and apex, and holds them against the second reading.
func askView(t *testing.T, book []impl.Entry, token, apex string) {
	t.Helper()
	wantRules, wantOk := rulesOfByWords(book, token)
	if rules, ok := impl.RulesOf(book, token); ok != wantOk || !sameRules(rules, wantRules) {
		t.Fatalf("%.20q: RulesOf is %v, %v, not %v, %v", token, rules, ok, wantRules, wantOk)
	}
	if seen, want := impl.Seen(book, token), seenByWords(book, token); !sameBooks(seen, want) {
		t.Fatalf("%.20q: Seen is %v, not %v", token, seen, want)
	}
	wantZone, wantOk := zoneForByWords(book, token, apex)
	if zone, ok := impl.ZoneFor(book, token, apex); ok != wantOk || !sameZones(zone, wantZone) {
		t.Fatalf("%.20q, %.70q: ZoneFor is %v, %v, not %v, %v", token, apex, zone, ok, wantZone, wantOk)
	}
	for _, e := range book {
		askLets(t, book, token, e.Key)
	}
}

func askLets(t *testing.T, book []impl.Entry, token, key string) {
	t.Helper()
	for _, write := range []bool{false, true} {
		if got, want := impl.Lets(book, token, key, write), letsByWords(book, token, key, write); got != want {
			t.Fatalf("%.20q: Lets %.50q %v is %v", token, key, write, got)
		}
	}
}

// askSeesNothing asks of a token that has no Rules, or of what is no book.
func askSeesNothing(t *testing.T, what string, book []impl.Entry, token string) {
	t.Helper()
	if rules, ok := impl.RulesOf(book, token); ok || len(rules) > 0 {
		t.Fatalf("%s: RulesOf is %v, %v", what, rules, ok)
	}
	if seen := impl.Seen(book, token); len(seen) > 0 {
		t.Fatalf("%s: Seen is %v", what, seen)
	}
	for _, apex := range []string{"zone", "a.b", "", "."} {
		if zone, ok := impl.ZoneFor(book, token, apex); ok || zone.Apex != "" || len(zone.Records) > 0 {
			t.Fatalf("%s: ZoneFor %q is %v, %v", what, apex, zone, ok)
		}
	}
	keys := []string{"", "svc/", "svc/a", "acl/ann", "acl/" + token, "x"}
	for _, e := range firstOf(book, 10) {
		keys = append(keys, e.Key)
	}
	for _, key := range keys {
		if impl.Lets(book, token, key, false) || impl.Lets(book, token, key, true) {
			t.Fatalf("%s: Lets %.50q", what, key)
		}
	}
}

func TestViewKnown(t *testing.T) {
	book := []impl.Entry{acl("ann", "r- svc/ -w svc/b"), acl("bob", "rw svc/b"), svc("a.b", "2"), svc("b", "3"), goneEntry("svc/c", 9, 1), svc("z", "1")}
	if rules, ok := impl.RulesOf(book, "ann"); !ok || !sameRules(rules, []impl.Rule{rule("r-", "svc/"), rule("-w", "svc/b")}) {
		t.Errorf("RulesOf is %v, %v", rules, ok)
	}
	if seen := impl.Seen(book, "ann"); !sameBooks(seen, []impl.Entry{book[2], book[5]}) {
		t.Errorf("Seen is %v", seen)
	}
	if seen := impl.Seen(book, "bob"); !sameBooks(seen, []impl.Entry{book[3]}) {
		t.Errorf("Seen by bob is %v", seen)
	}
	want := impl.Zone{Apex: "b", Records: []impl.Rr{rr("b", 1, 10, "soa"), rr("b", 2, 10, "ns"), rr("a.b.b", 3, 5, "2"), rr("z.b", 3, 5, "1")}}
	if zone, ok := impl.ZoneFor(book, "ann", "b"); !ok || !sameZones(zone, want) {
		t.Errorf("ZoneFor is %v, %v", zone, ok)
	}
	for key, lets := range map[string]string{"svc/": "r-", "svc/a": "r-", "svc/b": "-w", "svc/bb": "-w", "svc": "--", "acl/ann": "--", "": "--"} {
		want := rule(lets, key)
		if impl.Lets(book, "ann", key, false) != want.Read || impl.Lets(book, "ann", key, true) != want.Write {
			t.Errorf("Lets %q is not %s", key, lets)
		}
	}
	askSeesNothing(t, "cid", book, "cid")
}

// Names are in order from their last label on, where Keys are from their first byte on.
func TestZoneForIsInOrderOfNames(t *testing.T) {
	book := bookOf(acl("ann", "r- "), svc("a.z", "1"), svc("b-", "2"), svc("b.a", "3"), svc("c", "4"), svc("z.b", "5"), svc("b", "6"))
	zone, ok := impl.ZoneFor(book, "ann", "zone")
	names := []string{}
	for _, r := range zone.Records {
		names = append(names, r.Name)
	}
	if want := []string{"zone", "zone", "b.a.zone", "b.zone", "z.b.zone", "b-.zone", "c.zone", "a.z.zone"}; !ok || !slices.Equal(names, want) || !impl.ZoneOk(zone) {
		t.Errorf("ZoneFor has %q, %v", names, ok)
	}
}

// whyNot says why an Entry is not Seen; empty where it is.
func whyNot(e impl.Entry, rules []impl.Rule) string {
	switch {
	case !strings.HasPrefix(e.Key, "svc/"):
		return "another Key"
	case nameByWords(e.Key) == "":
		return "no name"
	case e.Gone:
		return "Gone"
	case !mayByWords(rules, e.Key, false):
		return "not let"
	}
	return ""
}

// Promise 16: what is Seen is all of the book, in its order, that is not Gone, has a Key svc/NAME and may be read, and nothing else.
func TestPromise16SeenOfDrawnBooks(t *testing.T) {
	counts := map[string]int{}
	for _, book := range drawnViews() {
		if !impl.BookOk(book) {
			t.Fatalf("%v is no book", book)
		}
		for _, token := range append(slices.Clone(viewTokens), "nobody") {
			rules, ok := rulesOfByWords(book, token)
			seen := impl.Seen(book, token)
			if !ok {
				counts["no Rules"]++
				if len(seen) > 0 {
					t.Fatalf("%q has no Rules, but Seen is %v", token, seen)
				}
				continue
			}
			at := 0
			for _, e := range book {
				why := whyNot(e, rules)
				counts[why]++
				if why != "" {
					continue
				}
				if at >= len(seen) || seen[at] != e {
					t.Fatalf("%q: %v is not Seen at %d of %v", token, e, at, seen)
				}
				at++
			}
			if at != len(seen) {
				t.Fatalf("%q: %v are Seen, too", token, seen[at:])
			}
		}
	}
	for _, why := range []string{"", "no Rules", "another Key", "no name", "Gone", "not let"} {
		if counts[why] < 300 {
			t.Errorf("too few: %v", counts)
		}
	}
}

// askSameView is promise 16 of one book that differs from another in what is not Seen.
func askSameView(t *testing.T, what string, book, other []impl.Entry, token, apex string) {
	t.Helper()
	if !impl.BookOk(other) {
		t.Fatalf("%s: %v is no book", what, other)
	}
	if seen, want := impl.Seen(other, token), impl.Seen(book, token); !sameBooks(seen, want) {
		t.Fatalf("%s: Seen by %q became %v, from %v", what, token, seen, want)
	}
	zone, ok := impl.ZoneFor(other, token, apex)
	if want, wantOk := impl.ZoneFor(book, token, apex); ok != wantOk || !sameZones(zone, want) {
		t.Fatalf("%s: ZoneFor %q became %v, %v, from %v, %v", what, token, zone, ok, want, wantOk)
	}
}

// otherValues are given to what is not Seen.
var otherValues = []string{"-", "", "1", "r- ", "rw svc/", "r- svc/ -- svc/a", "other", "\x00", strings.Repeat("v", 40)}

// askEachUnseen is promise 16 of one book, token and apex; it counts why each one is not Seen. What is Gone gets no other Value, as it would come back.
func askEachUnseen(t *testing.T, draw func(int) int, book []impl.Entry, token, apex string, counts map[string]int) {
	t.Helper()
	rules, ok := rulesOfByWords(book, token)
	if !ok {
		counts["no Rules"]++
	}
	for at, e := range book {
		why := whyNot(e, rules)
		if why == "" || e.Key == "acl/"+token {
			continue
		}
		counts[why]++
		askSameView(t, "left out: "+e.Key, book, without(book, at), token, apex)
		gone := goneEntry(e.Key, e.Time+int64(draw(2)), e.Node)
		askSameView(t, "Gone: "+e.Key, book, with(book, at, gone), token, apex)
		if e.Gone {
			continue
		}
		other := e
		other.Value = otherValues[draw(len(otherValues))]
		askSameView(t, "another Value: "+e.Key, book, with(book, at, other), token, apex)
	}
}

// Promise 16: each Entry that is not Seen, left out, made Gone or given another Value, changes neither Seen nor the Zone.
func TestPromise16WhatIsNotSeenChangesNothing(t *testing.T) {
	draw := drawFrom(61)
	counts := map[string]int{}
	for _, book := range drawnViews() {
		for range 4 {
			askEachUnseen(t, draw, book, viewTokens[draw(len(viewTokens))], apexes[draw(len(apexes))], counts)
		}
	}
	for _, why := range []string{"no Rules", "another Key", "no name", "Gone", "not let"} {
		if counts[why] < 100 {
			t.Errorf("too few: %v", counts)
		}
	}
}

// blinded has all at once that is not Seen left out, Gone, with another Value, or as it is.
func blinded(draw func(int) int, book, seen []impl.Entry, token string) []impl.Entry {
	other := []impl.Entry{}
	for _, e := range book {
		if e.Key != "acl/"+token && !slices.Contains(seen, e) {
			switch draw(4) {
			case 0:
				continue
			case 1:
				e.Value, e.Gone = "", true
			case 2:
				if !e.Gone {
					e.Value = otherValues[draw(len(otherValues))]
				}
			}
		}
		other = append(other, e)
	}
	return other
}

// Promise 16: the same of all that is not Seen at once, of all of it left out, and of more that is not.
func TestPromise16AllThatIsNotSeen(t *testing.T) {
	draw := drawFrom(62)
	names, others := serviceNames(), otherKeys()
	changed := 0
	for _, book := range drawnViews() {
		for _, token := range viewTokens {
			apex := apexes[draw(len(apexes))]
			seen := seenByWords(book, token)
			other := blinded(draw, book, seen, token)
			if !sameBooks(other, book) {
				changed++
			}
			askSameView(t, "all at once", book, other, token, apex)
			own := []impl.Entry{}
			if e, there := entryOf(book, "acl/"+token); there {
				own = append(own, e)
			}
			askSameView(t, "all left out", book, bookOf(append(own, seen...)...), token, apex)
			rules, _ := rulesOfByWords(book, token)
			more := []impl.Entry{}
			for range 80 - len(book) {
				e := kinds([]string{"svc/" + names[draw(len(names))], others[draw(len(others))]}[draw(2)])[draw(16)]
				if _, there := entryOf(book, e.Key); !there && whyNot(e, rules) != "" {
					more = append(more, e)
				}
			}
			askSameView(t, "more of it", book, bookOf(append(more, book...)...), token, apex)
		}
	}
	if changed < 1000 {
		t.Errorf("only %d books were changed", changed)
	}
}

// Promise 16: the other tokens' Rules, whatever they are, change nothing of what one sees.
func TestPromise16RulesOfOthers(t *testing.T) {
	book := bookOf(acl("ann", "r- svc/ -- svc/b"), acl("annb", ""), acl("an", "--  "), acl("b", "r- "), svc("a", "1"), svc("b", "2"), svc("c", "3"))
	for at, e := range book {
		if e.Key == "acl/ann" || !strings.HasPrefix(e.Key, "acl/") {
			continue
		}
		for _, value := range slices.Concat(ruleTexts(), unreadable(), otherValues) {
			askSameView(t, value, book, with(book, at, entry(e.Key, value, 9, 0)), "ann", "zone")
		}
		askSameView(t, "left out", book, without(book, at), "ann", "zone")
		askSameView(t, "Gone", book, with(book, at, goneEntry(e.Key, 9, 0)), "ann", "zone")
	}
	if seen := impl.Seen(book, "ann"); len(seen) != 2 {
		t.Errorf("Seen is %v", seen)
	}
}

// Promise 16: the Zone has just a TySoa, a TyNs, and a TyA of each that is Seen whose NAME and . and apex is a name, and it is ZoneOk.
func TestPromise16ZoneOfDrawnBooks(t *testing.T) {
	zones, passed, refused := 0, 0, 0
	for _, book := range drawnViews() {
		for _, token := range viewTokens {
			for _, apex := range apexes {
				zone, ok := impl.ZoneFor(book, token, apex)
				seen := impl.Seen(book, token)
				if _, has := rulesOfByWords(book, token); !has || len(seen) > 58 {
					refused++
					if want, wantOk := zoneForByWords(book, token, apex); ok != wantOk || !sameZones(zone, want) {
						t.Fatalf("%q: ZoneFor %q is %v, %v", token, apex, zone, ok)
					}
					continue
				}
				passed += askZoneFor(t, zone, ok, seen, apex)
				zones++
			}
		}
	}
	if zones < 5000 || passed < 5000 || refused < 1000 {
		t.Errorf("%d Zones, without %d that are Seen; %d refused", zones, passed, refused)
	}
}

// askZoneFor takes the Records of a Zone away one by one; it answers how many of those that are Seen have none.
func askZoneFor(t *testing.T, zone impl.Zone, ok bool, seen []impl.Entry, apex string) int {
	t.Helper()
	if !ok || zone.Apex != apex || !impl.ZoneOk(zone) || !zoneByWords(zone) {
		t.Fatalf("%q: %v, %v is not ZoneOk", apex, zone, ok)
	}
	left := map[impl.Rr]int{}
	for _, r := range zone.Records {
		left[r]++
	}
	left[rr(apex, impl.TySoa, 10, "soa")]--
	left[rr(apex, impl.TyNs, 10, "ns")]--
	passed := 0
	for _, e := range seen {
		if name := nameByWords(e.Key) + "." + apex; nameByPattern(name) {
			left[rr(name, impl.TyA, 5, e.Value)]--
		} else {
			passed++
		}
	}
	for r, n := range left {
		if n != 0 {
			t.Fatalf("%q: %v is there %d times too often", apex, r, n)
		}
	}
	return passed
}

// What is Seen does change the Zone: without it, just its own Record is not there any more.
func TestZoneForOfWhatIsSeen(t *testing.T) {
	changed := 0
	for i, book := range drawnViews() {
		token, apex := viewTokens[i%len(viewTokens)], apexes[i%6]
		zone, ok := impl.ZoneFor(book, token, apex)
		if !ok {
			continue
		}
		for at, e := range book {
			if !slices.Contains(impl.Seen(book, token), e) {
				continue
			}
			name := nameByWords(e.Key) + "." + apex
			less := slices.DeleteFunc(slices.Clone(zone.Records), func(r impl.Rr) bool { return r.Name == name && nameByPattern(name) })
			if got, ok := impl.ZoneFor(without(book, at), token, apex); !ok || !sameRrs(got.Records, less) {
				t.Fatalf("without %v: %v, %v", e, got, ok)
			}
			if got, ok := impl.ZoneFor(with(book, at, goneEntry(e.Key, 9, 1)), token, apex); !ok || !sameRrs(got.Records, less) {
				t.Fatalf("with %v Gone: %v, %v", e, got, ok)
			}
			if len(less) == len(zone.Records) {
				continue
			}
			changed++
			e.Value = "new"
			if got, ok := impl.ZoneFor(with(book, at, e), token, apex); !ok || !sameRrs(impl.Found(got, name, impl.TyA), []impl.Rr{rr(name, 3, 5, "new")}) {
				t.Fatalf("with %v: %v, %v", e, got, ok)
			}
		}
	}
	if changed < 300 {
		t.Errorf("only %d changed it", changed)
	}
}

// All four, of drawn books, as the chapter says.
func TestViewsAsTheChapterSays(t *testing.T) {
	draw := drawFrom(63)
	for _, book := range drawnViews() {
		for _, token := range []string{viewTokens[draw(len(viewTokens))], viewTokens[draw(len(viewTokens))], "nobody", "", "Ann"} {
			askView(t, book, token, apexes[draw(len(apexes))])
		}
	}
}

// RulesOf answers the Rules that were shown.
func TestRulesOfWhatWasShown(t *testing.T) {
	asked := 0
	for i, list := range append(allDrawnRules(), edgeRules()...) {
		text := impl.ShowRules(list)
		if len(text) > 40 {
			continue
		}
		token := viewTokens[i%len(viewTokens)]
		book := bookOf(acl(token, text), svc("a", "1"), acl("other", "rw "))
		if rules, ok := impl.RulesOf(book, token); !ok || !sameRules(rules, list) {
			t.Fatalf("%q: RulesOf is %v, %v", text, rules, ok)
		}
		asked++
	}
	if asked < 150 {
		t.Errorf("only %d", asked)
	}
}

// Lets is May by RulesOf, of keys with a Rule, with a longer one that says otherwise, and with none.
func TestLetsIsMay(t *testing.T) {
	draw := drawFrom(64)
	counts := map[string]int{}
	for _, text := range ruleTexts() {
		list, ok := readByWords(text)
		book := bookOf(acl("ann", text), acl("bob", "rw "), svc("a", "1"))
		if !ok {
			t.Fatalf("%q is not right", text)
		}
		for _, key := range append(keysFor(draw, list), "svc/a", "svc/b", "svc/bb", "svc/bbb", "svc/aa", "acl/ann", strings.Repeat("svc/", 100)) {
			askLets(t, book, "ann", key)
			for _, write := range []bool{false, true} {
				got := impl.Lets(book, "ann", key, write)
				if got != impl.May(list, key, write) {
					t.Fatalf("%q: Lets %q %v is %v", text, key, write, got)
				}
				counts[fmt.Sprint(write, got)]++
			}
			if r, there := ruleForByWords(list, key); !there {
				counts["none"]++
			} else if slices.ContainsFunc(list, func(other impl.Rule) bool {
				return other.Read != r.Read && len(other.Prefix) < len(r.Prefix) && strings.HasPrefix(key, other.Prefix)
			}) {
				counts["otherwise"]++
			}
		}
	}
	for _, what := range []string{"false false", "false true", "true false", "true true", "none", "otherwise"} {
		if counts[what] < 200 {
			t.Errorf("too few: %v", counts)
		}
	}
}

// Each of four Prefixes that begin one another lets each of the four.
func TestLetsByTheLongest(t *testing.T) {
	for drawn := range 256 {
		list := []impl.Rule{}
		for i, prefix := range []string{"", "svc/", "svc/a", "svc/ab"} {
			list = append(list, rule(fourLets[drawn>>(2*i)&3], prefix))
		}
		book := bookOf(acl("ann", showByWords(list)), svc("a", "1"), svc("ab", "2"), svc("abc", "3"), svc("b", "4"), svc("aa", "5"))
		askView(t, book, "ann", "zone")
		for i, key := range []string{"acl/ann", "svc/b", "svc/aa", "svc/abc"} {
			if impl.Lets(book, "ann", key, false) != list[i].Read || impl.Lets(book, "ann", key, true) != list[i].Write {
				t.Fatalf("%v: Lets %q is another than %v", list, key, list[i])
			}
		}
	}
}

// readAll has Rules under acl/ and this text that let all be read, be it a token or not.
func readAll(token string) []impl.Entry {
	return bookOf(entry("acl/"+token, "rw ", 5, 3), svc("a", "1"), svc("b.c", "2"))
}

func TestTokensAtTheirEdges(t *testing.T) {
	for n := 1; n <= 12; n++ {
		for _, letter := range []string{"a", "m", "z"} {
			token := strings.Repeat(letter, n)
			book := readAll(token)
			askView(t, book, token, "zone")
			if seen := impl.Seen(book, token); len(seen) != 2 {
				t.Errorf("%q: Seen is %v", token, seen)
			}
			if zone, ok := impl.ZoneFor(book, token, "zone"); !ok || len(zone.Records) != 4 {
				t.Errorf("%q: ZoneFor is %v, %v", token, zone, ok)
			}
			if !impl.Lets(book, token, "svc/a", false) || !impl.Lets(book, token, "", true) {
				t.Errorf("%q is not let", token)
			}
		}
	}
	for _, n := range []int{0, 13, 14, 24, 35, 36} {
		askSeesNothing(t, fmt.Sprintf("%d letters", n), readAll(strings.Repeat("a", n)), strings.Repeat("a", n))
	}
	for _, n := range []int{37, 256, 257, 268, 100000} {
		askSeesNothing(t, fmt.Sprintf("%d letters", n), readAll("a"), strings.Repeat("a", n))
	}
}

// A token with one sign that is no letter a to z, in each place, is none, whatever the book has under it.
func TestNoToken(t *testing.T) {
	for b := range 256 {
		sign := string([]byte{byte(b)})
		if tokenPattern.MatchString(sign) {
			continue
		}
		for _, token := range []string{"a", "ann", "abcdefghijkl"} {
			for at := range len(token) {
				bad := token[:at] + sign + token[at+1:]
				askSeesNothing(t, fmt.Sprintf("%q", bad), readAll(bad), bad)
				askSeesNothing(t, fmt.Sprintf("%q by %q", bad, token), readAll(token), bad)
			}
		}
	}
	for _, bad := range []string{"é", "ünn", "\u0430nn", "ann\u0301", "an\uff41", "\u0161", "ann ", " ann", "ann\n", "ANN", "Ann", "anN", "a-n", "a.n", "a/n", "a1n", "../ann", "acl/ann", "*"} {
		askSeesNothing(t, bad, readAll(bad), bad)
		askSeesNothing(t, bad, readAll("ann"), bad)
	}
}

// A token has no Rules where there is no Entry of it, it is Gone, or its Value can't be read; what is under other Keys is not its own.
func TestTokenWithoutRules(t *testing.T) {
	others := []impl.Entry{svc("a", "1"), svc("b", "2"), svc("ann", "r- svc/")}
	askSeesNothing(t, "an empty book", nil, "ann")
	askSeesNothing(t, "no Entry", others, "ann")
	askSeesNothing(t, "Gone", bookOf(append(others, goneEntry("acl/ann", 9, 1))...), "ann")
	for _, value := range unreadable() {
		if _, ok := readByWords(value); ok {
			t.Fatalf("%q can be read", value)
		}
		askSeesNothing(t, fmt.Sprintf("%q", value), bookOf(append(others, acl("ann", value), acl("bob", "rw "))...), "ann")
	}
	for _, key := range []string{"acl", "acl/", "acl/an", "acl/annn", "acl/ann/", "acl/ann ", "acl/ann\x00", "acl/Ann", "acl/ANN", "Acl/ann", "ACL/ann", "acl//ann", "aclann", "acl.ann", " acl/ann", "/acl/ann", "ann", "svc/ann", "ack/ann", "acm/ann", "bcl/ann"} {
		askSeesNothing(t, key, bookOf(append(others, entry(key, "rw ", 5, 3))...), "ann")
	}
}

// What is one byte away from Rules that were shown is read only where it is shown, too.
func TestRulesOfValuesChangedInOneByte(t *testing.T) {
	right, wrong := 0, 0
	for _, text := range []string{"r- svc/", "r- svc/ -- svc/b", "rw ", "--  r- s", "r- a -w b rw c -- d"} {
		for _, value := range changedTexts(text) {
			book := bookOf(acl("ann", value), svc("a", "1"), svc("b", "2"))
			askView(t, book, "ann", "zone")
			if _, ok := impl.RulesOf(book, "ann"); ok {
				right++
			} else {
				askSeesNothing(t, fmt.Sprintf("%q", value), book, "ann")
				wrong++
			}
		}
	}
	if right < 100 || wrong < 100 {
		t.Errorf("%d can be read, %d can't", right, wrong)
	}
}

// The empty Value is ShowRules of none: the token has Rules, which are none, and so it may nothing.
func TestTokenOfNoRules(t *testing.T) {
	book := bookOf(acl("ann", ""), svc("a", "1"), svc("b", "2"))
	if rules, ok := impl.RulesOf(book, "ann"); !ok || len(rules) > 0 {
		t.Errorf("RulesOf is %v, %v", rules, ok)
	}
	if seen := impl.Seen(book, "ann"); len(seen) > 0 {
		t.Errorf("Seen is %v", seen)
	}
	want := impl.Zone{Apex: "zone", Records: []impl.Rr{rr("zone", 1, 10, "soa"), rr("zone", 2, 10, "ns")}}
	if zone, ok := impl.ZoneFor(book, "ann", "zone"); !ok || !sameZones(zone, want) {
		t.Errorf("ZoneFor is %v, %v", zone, ok)
	}
	for _, key := range []string{"", "svc/a", "acl/ann"} {
		if impl.Lets(book, "ann", key, false) || impl.Lets(book, "ann", key, true) {
			t.Errorf("Lets %q", key)
		}
	}
	for _, apex := range append(noNames(), "") {
		if zone, ok := impl.ZoneFor(book, "ann", apex); ok || zone.Apex != "" || len(zone.Records) > 0 {
			t.Errorf("ZoneFor %.70q is %v, %v", apex, zone, ok)
		}
	}
}

// A Key is Seen where it is svc/NAME, and else is not, whatever the Rules let.
func TestSeenKeys(t *testing.T) {
	for _, name := range serviceNames() {
		book := bookOf(acl("ann", "r- "), svc(name, "1"))
		if seen := impl.Seen(book, "ann"); !sameBooks(seen, []impl.Entry{svc(name, "1")}) {
			t.Errorf("%q: Seen is %v", name, seen)
		}
		askView(t, book, "ann", "zone")
		gone := bookOf(acl("ann", "r- "), goneEntry("svc/"+name, 5, 3))
		if seen := impl.Seen(gone, "ann"); len(seen) > 0 {
			t.Errorf("%q: Seen is %v, though it is Gone", name, seen)
		}
	}
	keys := otherKeys()
	for _, bad := range noNames() {
		if len(bad) <= 36 {
			keys = append(keys, "svc/"+bad)
		}
	}
	for _, key := range keys {
		book := bookOf(acl("ann", "rw "), entry(key, "1", 5, 3))
		if seen := impl.Seen(book, "ann"); len(seen) > 0 {
			t.Errorf("%q: Seen is %v", key, seen)
		}
		if zone, ok := impl.ZoneFor(book, "ann", "zone"); !ok || len(zone.Records) != 2 {
			t.Errorf("%q: ZoneFor is %v, %v", key, zone, ok)
		}
		if !impl.Lets(book, "ann", key, false) {
			t.Errorf("%q: Lets is false", key)
		}
	}
}

// Each Entry that is Seen is so as it stands, with Values, Times and Nodes at their edges.
func TestSeenIsAsItStands(t *testing.T) {
	for _, value := range []string{"", "1", "\x00", "\xff", "\n", " ", "é", strings.Repeat("v", 39), strings.Repeat("v", 40)} {
		for _, time := range []int64{1, 2, impl.MaxTime - 1, impl.MaxTime} {
			for node := range int64(8) {
				e := entry("svc/a", value, time, node)
				book := bookOf(acl("ann", "r- svc/"), e)
				if seen := impl.Seen(book, "ann"); !sameBooks(seen, []impl.Entry{e}) {
					t.Fatalf("Seen is %v, not %v", seen, e)
				}
				zone, ok := impl.ZoneFor(book, "ann", "zone")
				if found := impl.Found(zone, "a.zone", impl.TyA); !ok || !sameRrs(found, []impl.Rr{rr("a.zone", 3, 5, value)}) {
					t.Fatalf("of %v the Zone has %v", e, found)
				}
			}
		}
	}
}

func TestZoneForOfNoApex(t *testing.T) {
	book := bookOf(acl("ann", "r- "), svc("a", "1"))
	for _, apex := range append(noNames(), "") {
		if zone, ok := impl.ZoneFor(book, "ann", apex); ok || zone.Apex != "" || len(zone.Records) > 0 {
			t.Errorf("ZoneFor %.70q is %v, %v", apex, zone, ok)
		}
	}
	for _, apex := range append(edgeNames()[1:], apexes...) {
		zone, ok := impl.ZoneFor(book, "ann", apex)
		if want, wantOk := zoneForByWords(book, "ann", apex); !ok || !wantOk || !sameZones(zone, want) || !impl.ZoneOk(zone) {
			t.Errorf("ZoneFor %q is %v, %v", apex, zone, ok)
		}
	}
}

// apexOf has n bytes, in labels of at most 12.
func apexOf(n int) string {
	name := ""
	for n-len(name) > 12 {
		name += strings.Repeat("q", 11) + "."
	}
	return name + strings.Repeat("q", n-len(name))
}

// A name of just 60 bytes is in the Zone, one of 61 is not, and the others stay.
func TestZoneForOfLongNames(t *testing.T) {
	for n := 1; n <= 60; n++ {
		apex := apexOf(n)
		if !impl.NameOk(apex) || len(apex) != n {
			t.Fatalf("%q is no apex of %d bytes", apex, n)
		}
		for long := 1; long <= 12; long++ {
			names := []string{strings.Repeat("m", long), strings.Repeat("m", max(long-1, 1))}
			book := bookOf(acl("ann", "r- "), svc(names[0], "1"), svc(names[1], "2"))
			askView(t, book, "ann", apex)
			zone, ok := impl.ZoneFor(book, "ann", apex)
			there := len(impl.Found(zone, names[0]+"."+apex, impl.TyA)) == 1
			fits := long+1+n <= 60 && strings.Count(apex, ".")+2 <= 6
			if !ok || there != fits {
				t.Fatalf("%d and %d bytes: %v, %v", long, n, zone, ok)
			}
			if seen := impl.Seen(book, "ann"); len(seen) != len(book)-1 {
				t.Fatalf("%d and %d bytes: Seen is %v", long, n, seen)
			}
		}
	}
	fifty := "aaaaaaaaaaaa.bbbbbbbbbbbb.cccccccccccc.ddddddddddd"
	book := bookOf(acl("ann", "r- "), svc("123456789", "9"), svc("1234567890", "10"), svc("a.1234567", "9"), svc("a.12345678", "10"))
	want := []impl.Rr{rr(fifty, 1, 10, "soa"), rr(fifty, 2, 10, "ns"), rr("a.1234567."+fifty, 3, 5, "9"), rr("123456789."+fifty, 3, 5, "9")}
	if zone, ok := impl.ZoneFor(book, "ann", fifty); !ok || !sameRrs(zone.Records, want) {
		t.Errorf("ZoneFor is %v, %v", zone, ok)
	}
}

// A name of 6 labels is in the Zone, one of 7 is not.
func TestZoneForOfManyLabels(t *testing.T) {
	labels := []string{"a", "b", "c", "d", "e", "f"}
	for n := 1; n <= 6; n++ {
		for of := 1; of <= 6; of++ {
			name, apex := strings.Join(labels[:n], "."), strings.Join(labels[:of], ".")
			book := bookOf(acl("ann", "r- "), svc(name, "1"))
			askView(t, book, "ann", apex)
			if zone, ok := impl.ZoneFor(book, "ann", apex); !ok || (len(zone.Records) == 3) != (n+of <= 6) {
				t.Errorf("%q and %q: %v, %v", name, apex, zone, ok)
			}
		}
	}
}

// services are n that have names of one label.
func services(n int) []impl.Entry {
	list := []impl.Entry{}
	for i := range n {
		list = append(list, svc(fmt.Sprintf("n%02d", i), fmt.Sprint(i)))
	}
	return list
}

// A Zone has at most 60 Records, two of which are at the Apex.
func TestZoneForOfManyRecords(t *testing.T) {
	for n := range 80 {
		book := bookOf(append(services(n), acl("ann", "r- svc/"))...)
		askView(t, book, "ann", "zone")
		zone, ok := impl.ZoneFor(book, "ann", "zone")
		if ok != (n <= 58) || ok && len(zone.Records) != n+2 || !ok && (zone.Apex != "" || len(zone.Records) > 0) {
			t.Fatalf("of %d: %d Records, %v", n, len(zone.Records), ok)
		}
		if seen := impl.Seen(book, "ann"); len(seen) != n {
			t.Fatalf("of %d %d are Seen", n, len(seen))
		}
		if !impl.Lets(book, "ann", "svc/a", false) {
			t.Fatalf("of %d: Lets is false", n)
		}
	}
}

// Just what would be a Record counts: not what is Gone, may not be read, or would be no name.
func TestZoneForCountsWhatItTells(t *testing.T) {
	full := append(services(58), acl("ann", "r- svc/ -- svc/x"))
	for what, e := range map[string]impl.Entry{
		"Gone":       goneEntry("svc/a", 5, 3),
		"not let":    svc("x", "1"),
		"no name":    svc("", "1"),
		"too long":   svc("a.b.c.d.e.f", "1"),
		"no service": entry("a", "1", 5, 3),
		"Rules":      acl("bob", "r- "),
	} {
		if zone, ok := impl.ZoneFor(bookOf(append(full, e)...), "ann", "zone"); !ok || len(zone.Records) != 60 {
			t.Errorf("%s: %d Records, %v", what, len(zone.Records), ok)
		}
	}
	hidden := slices.Clone(full)
	for i := range 21 {
		hidden = append(hidden, svc(fmt.Sprintf("x%02d", i), "1"))
	}
	book := bookOf(hidden...)
	if zone, ok := impl.ZoneFor(book, "ann", "zone"); len(book) != 80 || !ok || len(zone.Records) != 60 {
		t.Errorf("of %d: %d Records, %v", len(book), len(zone.Records), ok)
	}
	if zone, ok := impl.ZoneFor(bookOf(append(full, svc("a", "1"))...), "ann", "zone"); ok || zone.Apex != "" || len(zone.Records) > 0 {
		t.Errorf("61: %d Records, %v", len(zone.Records), ok)
	}
	for n := 40; n <= 58; n++ {
		if zone, ok := impl.ZoneFor(bookOf(append(services(79), acl("ann", "r- svc/"))...), "ann", apexOf(n)); ok != (n > 56) {
			t.Errorf("79 under %d bytes: %d Records, %v", n, len(zone.Records), ok)
		}
	}
}

// noViews are no books, though ann has Rules in each that let all be read.
func noViews() map[string][]impl.Entry {
	right := bookOf(acl("ann", "rw "), acl("bob", "r- svc/"), svc("a", "1"), svc("b", "2"), goneEntry("svc/c", 6, 1), entry("zzz", "", 1, 0))
	books := map[string][]impl.Entry{
		"81":          bookOf(append(services(80), acl("ann", "rw "))...),
		"82":          bookOf(append(services(81), acl("ann", "rw "))...),
		"81 and Gone": append(bookOf(append(services(79), acl("ann", "rw "))...), goneEntry("z", 1, 0)),
	}
	turned := slices.Clone(right)
	slices.Reverse(turned)
	books["turned round"] = turned
	for at, e := range right {
		place := func(what string) string { return fmt.Sprintf("%s at %d", what, at) }
		books[place("twice")] = slices.Insert(slices.Clone(right), at, e)
		if at > 0 {
			swapped := slices.Clone(right)
			swapped[at-1], swapped[at] = swapped[at], swapped[at-1]
			books[place("changed about")] = swapped
		}
		for i, wrong := range noEntries() {
			books[place(fmt.Sprintf("wrong one %d", i))] = slices.Insert(slices.Clone(right), at, wrong)
		}
		for i, change := range wrongChanges() {
			books[place(fmt.Sprintf("change %d", i))] = with(right, at, change(e))
		}
	}
	return books
}

// wrongChanges make any Entry wrong in one thing, and leave its Key.
func wrongChanges() []func(e impl.Entry) impl.Entry {
	changes := []func(e impl.Entry) impl.Entry{}
	for _, time := range append([]int64{0}, noTimes...) {
		changes = append(changes, func(e impl.Entry) impl.Entry { e.Time = time; return e })
	}
	for _, node := range noNodes {
		changes = append(changes, func(e impl.Entry) impl.Entry { e.Node = node; return e })
	}
	return append(changes,
		func(e impl.Entry) impl.Entry { e.Value = strings.Repeat("v", 41); return e },
		func(e impl.Entry) impl.Entry { e.Value, e.Gone = "v", true; return e },
	)
}

// Of what is no book nobody sees anything, whatever else is right.
func TestViewOfNoBook(t *testing.T) {
	for what, book := range noViews() {
		if bookByWords(book) {
			t.Fatalf("%s: a book", what)
		}
		askSeesNothing(t, what, book, "ann")
		askSeesNothing(t, what, book, "bob")
	}
	for what, book := range noBooks() {
		askSeesNothing(t, what, book, "a")
	}
}

// Rules that fill a Value: what one byte more would say is in no book.
func TestRulesOfTheLongestValue(t *testing.T) {
	text := "r- " + strings.Repeat("s", 37)
	book := bookOf(acl("ann", text), svc("a", "1"))
	if rules, ok := impl.RulesOf(book, "ann"); !ok || !sameRules(rules, []impl.Rule{rule("r-", text[3:])}) {
		t.Errorf("RulesOf is %v, %v", rules, ok)
	}
	askSeesNothing(t, "41 bytes", bookOf(acl("ann", text+"s"), svc("a", "1")), "ann")
	ten := "r- a r- b r- c r- d r- e r- f r- g r- h"
	if rules, ok := impl.RulesOf(bookOf(acl("ann", ten)), "ann"); !ok || len(rules) != 8 {
		t.Errorf("RulesOf is %v, %v", rules, ok)
	}
}

// Any books, tokens, apexes and keys: they are as the chapter says, and nothing panics.
func TestViewsOfAnyBytes(t *testing.T) {
	draw := drawFrom(65)
	anyText := func(most int, from string) string {
		bytes := make([]byte, draw(most+1))
		for i := range bytes {
			bytes[i] = from[draw(len(from))]
		}
		return string(bytes)
	}
	seen, zones, wrong := 0, 0, 0
	for range 15000 {
		list := []impl.Entry{}
		for range draw(6) {
			key := []string{"svc/", "acl/", ""}[draw(3)] + anyText(3, "ab.-A\xff")
			list = append(list, impl.Entry{Key: key, Value: anyText(6, "r-w a"), Time: int64(draw(200)), Node: int64(draw(8)), Gone: draw(30) == 0})
		}
		if draw(4) > 0 {
			list = append(list, acl("ab", []string{"r- ", "rw  -- svc/b", "r- svc/a"}[draw(3)]))
		}
		if draw(9) > 0 {
			list = bookOf(list...)
		}
		token, apex := anyText(2, "abA."), anyText(4, "ab.-")
		if draw(2) > 0 {
			token = "ab"
		}
		askView(t, list, token, apex)
		askLets(t, list, token, anyText(6, "svc/acl/ab"))
		seen += len(impl.Seen(list, token))
		if _, ok := impl.ZoneFor(list, token, apex); ok {
			zones++
		}
		if !impl.BookOk(list) {
			wrong++
		}
	}
	if seen < 500 || zones < 500 || wrong < 500 {
		t.Errorf("%d are Seen, %d Zones, %d no books", seen, zones, wrong)
	}
}

// No panic comes out, whatever they are given.
func TestViewsOfFarTooMuch(t *testing.T) {
	many := slices.Repeat([]impl.Entry{acl("ann", "rw "), svc("a", "1")}, 50000)
	long := strings.Repeat("a.", 1<<20)
	for what, book := range map[string][]impl.Entry{"many": many, "zero ones": make([]impl.Entry, 1000), "none": nil, "a long Key": {entry(long, long, 1, 0)}} {
		for _, token := range []string{"ann", "", long} {
			askSeesNothing(t, what, book, token)
			if impl.Lets(book, token, long, true) {
				t.Errorf("%s: Lets", what)
			}
		}
	}
	book := readAll("ann")
	if zone, ok := impl.ZoneFor(book, "ann", long); ok || zone.Apex != "" || len(zone.Records) > 0 {
		t.Errorf("ZoneFor has %d Records, %v", len(zone.Records), ok)
	}
	if !impl.Lets(book, "ann", long, true) || !impl.Lets(book, "ann", "", false) {
		t.Error("Lets is false")
	}
}

// viewAnswer is all that is answered of one book.
type viewAnswer struct {
	rules [][]impl.Rule
	seen  [][]impl.Entry
	zones [][]impl.Rr
	told  string
}

func viewAnswers(book []impl.Entry) viewAnswer {
	a := viewAnswer{}
	told := []string{}
	for _, token := range []string{"ann", "bob", "root", "abcdefghijkl", "nobody", ""} {
		rules, ok := impl.RulesOf(book, token)
		a.rules, a.seen = append(a.rules, rules), append(a.seen, impl.Seen(book, token))
		for _, apex := range []string{"zone", "a.b.c.d.e", ""} {
			zone, is := impl.ZoneFor(book, token, apex)
			a.zones = append(a.zones, zone.Records)
			told = append(told, fmt.Sprint(ok, is, zone.Apex))
		}
		for _, key := range []string{"", "svc/a", "svc/b", "acl/ann"} {
			told = append(told, fmt.Sprint(impl.Lets(book, token, key, false), impl.Lets(book, token, key, true)))
		}
	}
	a.told = strings.Join(told, " ")
	return a
}

func clonesOf[T any](lists [][]T) [][]T {
	clones := [][]T{}
	for _, list := range lists {
		clones = append(clones, slices.Clone(list))
	}
	return clones
}

func (a viewAnswer) clone() viewAnswer {
	return viewAnswer{rules: clonesOf(a.rules), seen: clonesOf(a.seen), zones: clonesOf(a.zones), told: a.told}
}

func (a viewAnswer) same(b viewAnswer) bool {
	return slices.EqualFunc(a.rules, b.rules, sameRules) && slices.EqualFunc(a.seen, b.seen, sameBooks) && slices.EqualFunc(a.zones, b.zones, sameRrs) && a.told == b.told
}

var scribbledRr = rr("scribble", -9, -9, "scribble")

func (a viewAnswer) scribble() {
	for _, list := range a.rules {
		scribbleOn(list, scribbledRule)
	}
	for _, list := range a.seen {
		scribbleOn(list, scribbled)
	}
	for _, list := range a.zones {
		scribbleOn(list, scribbledRr)
	}
}

// viewArguments are books and none, some with more than a Zone has room for.
func viewArguments() [][]impl.Entry {
	books := [][]impl.Entry{nil, {}, readAll("ann"), readAll("Ann"), bookOf(acl("ann", ""), svc("a", "1")), bookOf(append(services(58), acl("ann", "r- "))...), bookOf(append(services(79), acl("ann", "r- "))...)}
	for i, book := range drawnViews() {
		if i%5 == 0 {
			books = append(books, book)
		}
	}
	wrong := noViews()
	for i, what := range slices.Sorted(maps.Keys(wrong)) {
		if i%20 == 0 {
			books = append(books, wrong[what])
		}
	}
	return books
}

// Promise 21: arguments stay, with the room behind them, and no answer has a part of them.
func TestPromise21ViewArgumentsStay(t *testing.T) {
	for i, book := range viewArguments() {
		for _, room := range []int{0, 1, 90} {
			given, all := roomyOf(book, room, scribbled)
			before := slices.Clone(all)
			got := viewAnswers(given)
			if !sameBooks(all, before) {
				t.Fatalf("book %d with room for %d: something was written", i, room)
			}
			got.scribble()
			if !sameBooks(all, before) {
				t.Fatalf("book %d with room for %d: an answer shares memory", i, room)
			}
		}
	}
}

// Promise 21: the same of books that are pieces of one array.
func TestPromise21ViewArgumentsInOneArray(t *testing.T) {
	all := bookOf(acl("ann", "rw "), acl("bob", "r- svc/ -- svc/b"), svc("a", "1"), svc("b", "2"), goneEntry("svc/c", 5, 3), svc("d.e", "3"), entry("zzz", "4", 5, 3))
	before := slices.Clone(all)
	for from := range all {
		for to := from; to <= len(all); to++ {
			want := viewAnswers(slices.Clone(all[from:to])).clone()
			got := viewAnswers(all[from:to])
			if !got.same(want) || !sameBooks(all, before) {
				t.Fatalf("from %d to %d: something was written", from, to)
			}
			got.scribble()
			if !sameBooks(all, before) {
				t.Fatalf("from %d to %d: an answer shares memory", from, to)
			}
		}
	}
}

// Promise 21: a book that is written to later changes no answer.
func TestPromise21ViewAnswersStay(t *testing.T) {
	for i, book := range viewArguments() {
		given, all := roomyOf(book, 3, impl.Entry{})
		got := viewAnswers(given)
		want := got.clone()
		scribbleOn(all, scribbled)
		if !got.same(want) {
			t.Fatalf("book %d: an answer shares memory", i)
		}
	}
}

// Promise 21: no two answers have anything in common, be they to the same, or one out of the other.
func TestPromise21ViewAnswersAreApart(t *testing.T) {
	for i, book := range viewArguments() {
		first, second := viewAnswers(book), viewAnswers(book)
		own, _ := entryOf(book, "acl/ann")
		out := bookOf(append(impl.Seen(book, "ann"), own)...)
		on := viewAnswers(out)
		want, wantOn := second.clone(), on.clone()
		first.scribble()
		if !second.same(want) || !on.same(wantOn) || !viewAnswers(book).same(want) {
			t.Fatalf("book %d: two answers share memory", i)
		}
		on.scribble()
		if !second.same(want) || !viewAnswers(out).same(wantOn) {
			t.Fatalf("book %d: two answers share memory", i)
		}
	}
}

// Promise 21: two that go on from one answer do not write over each other.
func TestPromise21ViewTwoWaysOn(t *testing.T) {
	for n := range 60 {
		book := bookOf(append(services(n), acl("ann", "r- svc/"), acl("bob", "r- svc/"))...)
		one := append(impl.Seen(book, "ann"), svc("one", "1"))
		other := append(impl.Seen(book, "bob"), svc("other", "2"))
		left, _ := impl.RulesOf(book, "ann")
		right, _ := impl.RulesOf(book, "bob")
		left, right = append(left, rule("rw", "left")), append(right, rule("--", "right"))
		if one[n] != svc("one", "1") || other[n] != svc("other", "2") || left[1] != rule("rw", "left") || right[1] != rule("--", "right") {
			t.Fatalf("of %d: %v and %v, %v and %v", n, one[n], other[n], left, right)
		}
		if n > 58 {
			continue
		}
		mine, _ := impl.ZoneFor(book, "ann", "zone")
		yours, _ := impl.ZoneFor(book, "bob", "zone")
		mine.Records, yours.Records = append(mine.Records, rr("mine", 3, 5, "")), append(yours.Records, rr("yours", 3, 5, ""))
		if mine.Records[n+2].Name != "mine" || yours.Records[n+2].Name != "yours" {
			t.Fatalf("of %d: %v and %v", n, mine.Records[n+2], yours.Records[n+2])
		}
	}
}

// Promise 21: the same arguments get the same answers again, whatever was asked in between.
func TestPromise21ViewAgain(t *testing.T) {
	books := viewArguments()
	first := []viewAnswer{}
	for _, book := range books {
		first = append(first, viewAnswers(book))
	}
	for i, book := range slices.Backward(books) {
		if got := viewAnswers(slices.Clone(book)); !got.same(first[i]) {
			t.Fatalf("book %d: %s, then %s", i, first[i].told, got.told)
		}
	}
}
