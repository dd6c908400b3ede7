package tests

import (
	"fmt"
	"maps"
	"regexp"
	"slices"
	"sort"
	"strings"
	"testing"

	"loop.example/g00307/impl"
)

var (
	prefixPattern = regexp.MustCompile(`^[!-~]{0,40}$`)
	ruleItem      = regexp.MustCompile(`([-r])([-w]) ([!-~]*)`)
	rulesPattern  = regexp.MustCompile(`^([-r][-w] [!-~]{0,40}( [-r][-w] [!-~]{0,40}){0,11})?$`)
)

func rule(lets, prefix string) impl.Rule {
	return impl.Rule{Prefix: prefix, Read: lets[0] == 'r', Write: lets[1] == 'w'}
}

// fourLets are all that a Rule can let.
var fourLets = []string{"--", "-w", "r-", "rw"}

func prefixesOf(list []impl.Rule) []string {
	prefixes := []string{}
	for _, r := range list {
		prefixes = append(prefixes, r.Prefix)
	}
	return prefixes
}

// risesByWords: in order, and none twice.
func risesByWords(list []impl.Rule) bool {
	prefixes := prefixesOf(list)
	return sort.StringsAreSorted(prefixes) && len(slices.Compact(prefixes)) == len(list)
}

func rulesByWords(list []impl.Rule) bool {
	for _, r := range list {
		if !prefixPattern.MatchString(r.Prefix) {
			return false
		}
	}
	return len(list) < 13 && risesByWords(list)
}

// ruleForByWords cuts one byte after the other off key and looks up what is left, where the program goes through the Rules.
func ruleForByWords(list []impl.Rule, key string) (impl.Rule, bool) {
	if !rulesByWords(list) {
		return impl.Rule{}, false
	}
	byPrefix := map[string]impl.Rule{}
	for _, r := range list {
		byPrefix[r.Prefix] = r
	}
	for n := len(key); n >= 0; n-- {
		if r, there := byPrefix[key[:n]]; there {
			return r, true
		}
	}
	return impl.Rule{}, false
}

func mayByWords(list []impl.Rule, key string, write bool) bool {
	r, there := ruleForByWords(list, key)
	return there && (write && r.Write || !write && r.Read)
}

func showByWords(list []impl.Rule) string {
	if !rulesByWords(list) {
		return ""
	}
	text := ""
	for _, r := range list {
		at := 0
		if r.Read {
			at += 2
		}
		if r.Write {
			at++
		}
		text += fmt.Sprintf(" %s %s", fourLets[at], r.Prefix)
	}
	return strings.TrimPrefix(text, " ")
}

// readByWords goes by a pattern of the whole text.
func readByWords(s string) ([]impl.Rule, bool) {
	if !rulesPattern.MatchString(s) {
		return nil, false
	}
	list := []impl.Rule{}
	for _, part := range ruleItem.FindAllStringSubmatch(s, -1) {
		list = append(list, impl.Rule{Prefix: part[3], Read: part[1] == "r", Write: part[2] == "w"})
	}
	if !risesByWords(list) {
		return nil, false
	}
	return list, true
}

func sameRules(a, b []impl.Rule) bool { return slices.Equal(a, b) }

// rulesOfPrefixes have drawn lets, in order, none twice.
func rulesOfPrefixes(draw func(int) int, prefixes []string) []impl.Rule {
	sorted := slices.Sorted(slices.Values(prefixes))
	list := []impl.Rule{}
	for _, prefix := range slices.Compact(sorted) {
		list = append(list, rule(fourLets[draw(4)], prefix))
	}
	return list
}

// chainOf are the first n that word begins with, the empty one first.
func chainOf(word string, n int) []string {
	chain := []string{}
	for i := range n {
		chain = append(chain, word[:i])
	}
	return chain
}

// firstOf are the first n, or all where there are fewer.
func firstOf[T any](list []T, n int) []T { return list[:min(n, len(list))] }

func drawnPrefix(draw func(int) int, most int) string {
	bytes := make([]byte, draw(most+1))
	for i := range bytes {
		bytes[i] = byte(33 + draw(94))
	}
	return string(bytes)
}

// wordLike are Prefixes that look like what else is told, or like what keys have.
func wordLike() []string {
	return []string{"", "!", "-", "--", "---", "-w", "-w-", "r", "r-", "r--", "rw", "rw/", "w", "w-", "wr", "svc/", "svc/a", "svc/b", "acl/", "acl/x", "~", "~~"}
}

// ruleKinds draw Prefixes, of which those of each kind stand to one another in their own way.
func ruleKinds(draw func(int) int) map[string]func() []string {
	word := "svc/a.b-1.zone/c.d.e.f.g.h.i.j.k.l.m.n.o"[:40]
	few := []string{"", "a", "b", "aa", "ab", "ba", "bb", "aaa", "aab", "aba", "abb"}
	return map[string]func() []string{
		"none":    func() []string { return nil },
		"a chain": func() []string { return chainOf(word, 1+draw(12)) },
		"some of a chain": func() []string {
			prefixes := []string{}
			for range draw(13) {
				prefixes = append(prefixes, word[:draw(41)])
			}
			return prefixes
		},
		"close":           func() []string { return drawnPart(draw, few, 2) },
		"close, no empty": func() []string { return drawnPart(draw, few[1:], 2) },
		"none begins another": func() []string {
			return drawnPart(draw, []string{"aa", "ab", "ac", "ba", "bb", "bc", "ca", "cb", "cc", "!~", "~!", "~~"}, 2)
		},
		"like words": func() []string { return firstOf(drawnPart(draw, wordLike(), 3), draw(13)) },
		"any": func() []string {
			return []string{drawnPrefix(draw, 40), drawnPrefix(draw, 3), drawnPrefix(draw, 1), drawnPrefix(draw, 0)}
		},
		"12 of any": func() []string {
			prefixes := []string{}
			for i := range 12 {
				prefixes = append(prefixes, string(rune('A'+i))+drawnPrefix(draw, 39))
			}
			return prefixes
		},
	}
}

// drawnRules are of each kind.
func drawnRules() map[string][][]impl.Rule {
	draw := drawFrom(14)
	kinds := ruleKinds(draw)
	lists := map[string][][]impl.Rule{}
	for _, what := range slices.Sorted(maps.Keys(kinds)) {
		for range 60 {
			lists[what] = append(lists[what], rulesOfPrefixes(draw, kinds[what]()))
		}
	}
	return lists
}

func allDrawnRules() [][]impl.Rule {
	byKind := drawnRules()
	lists := [][]impl.Rule{}
	for _, what := range slices.Sorted(maps.Keys(byKind)) {
		lists = append(lists, byKind[what]...)
	}
	return lists
}

// manyRules are n that are right but for their number.
func manyRules(n int) []impl.Rule {
	list := []impl.Rule{}
	for i := range n {
		list = append(list, rule(fourLets[i%4], fmt.Sprintf("%03d", i)))
	}
	return list
}

// edgeRules are right, with Prefixes and numbers of Rules at the edges of the chapter.
func edgeRules() [][]impl.Rule {
	forty := strings.Repeat("~", 40)
	lists := [][]impl.Rule{
		nil, {}, manyRules(1), manyRules(11), manyRules(12),
		{rule("r-", "")}, {rule("--", ""), rule("rw", forty)}, {rule("rw", strings.Repeat("!", 40)), rule("-w", forty)},
		{rule("r-", "!"), rule("-w", "~")}, {rule("rw", "a"), rule("--", "aa")}, {rule("rw", "a~"), rule("--", "b!")},
		{rule("-w", forty[:39]), rule("r-", forty)}, {rule("--", "Z"), rule("rw", "a")},
	}
	for _, lets := range fourLets {
		for _, prefix := range wordLike() {
			lists = append(lists, []impl.Rule{rule(lets, prefix)})
		}
	}
	twelve := []impl.Rule{}
	for i := range 12 {
		twelve = append(twelve, rule(fourLets[i%4], strings.Repeat("x", 39)+string(rune('a'+i))))
	}
	return append(lists, twelve)
}

func someRules() [][]impl.Rule {
	lists := edgeRules()
	for i, list := range allDrawnRules() {
		if i%10 == 0 {
			lists = append(lists, list)
		}
	}
	return lists
}

// badPrefixes are wrong in one byte each, in each place, or in their length.
func badPrefixes() map[string]string {
	bad := map[string]string{}
	for _, n := range []int{41, 42, 80, 256, 296, 1000} {
		bad[fmt.Sprintf("%d bytes", n)] = strings.Repeat("a", n)
	}
	for b := range 256 {
		if b >= 33 && b <= 126 {
			continue
		}
		s := string([]byte{byte(b)})
		for _, prefix := range []string{s, s + "a", "a" + s, "a" + s + "b", strings.Repeat("z", 39) + s, s + strings.Repeat("z", 39)} {
			bad[fmt.Sprintf("byte %d in %q", b, prefix)] = prefix
		}
	}
	bad["of runes"] = "\u00e9"
	bad["a rune whose lowest byte is right"] = "\u0161"
	return bad
}

// noRules are wrong in one thing each.
func noRules() map[string][]impl.Rule {
	lists := map[string][]impl.Rule{
		"13":                          manyRules(13),
		"14":                          manyRules(14),
		"268":                         manyRules(268),
		"two alike":                   {rule("rw", "a"), rule("rw", "a")},
		"two Prefixes alike":          {rule("rw", "a"), rule("--", "a")},
		"two empty":                   {rule("rw", ""), rule("r-", "")},
		"the empty one last":          {rule("rw", "a"), rule("r-", "")},
		"in the wrong order":          {rule("rw", "b"), rule("rw", "a")},
		"begins the one ahead":        {rule("rw", "ab"), rule("rw", "a")},
		"ahead by length alone":       {rule("rw", "b"), rule("rw", "aa")},
		"the last two alike":          {rule("rw", ""), rule("rw", "a"), rule("r-", "b"), rule("r-", "b")},
		"alike, but not side by side": {rule("rw", "a"), rule("rw", "b"), rule("rw", "a")},
		"the middle ones":             {rule("rw", "a"), rule("rw", "c"), rule("rw", "b"), rule("rw", "d")},
		"13, the last ones alike":     append(manyRules(12), rule("rw", "011")),
		"no case":                     {rule("rw", "a"), rule("rw", "Z")},
		"by signed bytes":             {rule("rw", "a"), rule("rw", "\xffa")},
	}
	for what, prefix := range badPrefixes() {
		r := rule("rw", prefix)
		lists["alone: "+what] = []impl.Rule{r}
		if prefix > "\x01" {
			lists["behind: "+what] = []impl.Rule{rule("rw", ""), r}
		}
		if prefix < "~" {
			lists["ahead: "+what] = []impl.Rule{r, rule("rw", "~")}
			lists["between: "+what] = []impl.Rule{rule("rw", ""), r, rule("rw", "~~")}
		}
	}
	return lists
}

// keysFor are each Prefix itself, what is next to it, and keys that have nothing to do with it.
func keysFor(draw func(int) int, list []impl.Rule) []string {
	keys := []string{"", "a", "ab", "abb", "aab/x", "svc/", "svc/a", "svc/a.b-1.zone/c.d.e.f.g.h.i.j.k.l.m.n.o", "svc", " ", "\x00", "\xff", "\u00e9", "r-", "r- a", "~", strings.Repeat("a", 1000)}
	for _, r := range list {
		keys = append(keys, r.Prefix, r.Prefix+"a", r.Prefix+"~", r.Prefix+" ", r.Prefix+"\x00", r.Prefix+"\xff", r.Prefix+r.Prefix, " "+r.Prefix, "x"+r.Prefix, r.Prefix+strings.Repeat("z", 100))
		if n := len(r.Prefix); n > 0 {
			at := draw(n)
			keys = append(keys, r.Prefix[:n-1], r.Prefix[1:], r.Prefix[:n-1]+"\x00", r.Prefix[:n-1]+string([]byte{r.Prefix[n-1] ^ 1}), r.Prefix[:at], r.Prefix[:at]+strings.ToUpper(r.Prefix[at:]))
		}
	}
	return keys
}

// beginsByBytes goes byte by byte.
func beginsByBytes(key, prefix string) bool {
	for i := range len(prefix) {
		if i >= len(key) || key[i] != prefix[i] {
			return false
		}
	}
	return true
}

// askRuleFor is the first half of promise 14, of one list and one key; it answers how many Prefixes fit.
func askRuleFor(t *testing.T, list []impl.Rule, key string) int {
	t.Helper()
	got, there := impl.RuleFor(list, key)
	fit := 0
	for _, r := range list {
		if !beginsByBytes(key, r.Prefix) {
			continue
		}
		fit++
		if len(r.Prefix) > len(got.Prefix) {
			t.Fatalf("RuleFor(%v, %q) = %v, but %v is longer", list, key, got, r)
		}
	}
	if there != (fit > 0) {
		t.Fatalf("RuleFor(%v, %q) is %v", list, key, there)
	}
	if there && (!slices.Contains(list, got) || !beginsByBytes(key, got.Prefix)) {
		t.Fatalf("RuleFor(%v, %q) = %v is none that fits", list, key, got)
	}
	if !there && got != (impl.Rule{}) {
		t.Fatalf("RuleFor(%v, %q) = %v, false", list, key, got)
	}
	if want, wantThere := ruleForByWords(list, key); got != want || there != wantThere {
		t.Fatalf("RuleFor(%v, %q) = %v, %v, not %v", list, key, got, there, want)
	}
	if read, write := impl.May(list, key, false), impl.May(list, key, true); read != (there && got.Read) || write != (there && got.Write) {
		t.Fatalf("May(%v, %q) is %v of reading, %v of writing, though RuleFor is %v", list, key, read, write, got)
	}
	return fit
}

// askShown is the second half of promise 14, of one list.
func askShown(t *testing.T, list []impl.Rule) {
	t.Helper()
	if !rulesByWords(list) || !impl.RulesOk(list) {
		t.Fatalf("%v are not RulesOk", list)
	}
	text := impl.ShowRules(list)
	if text != showByWords(list) {
		t.Fatalf("ShowRules(%v) = %q", list, text)
	}
	read, ok := impl.ReadRules(text)
	if !ok || !sameRules(read, list) {
		t.Fatalf("ReadRules(%q) = %v, %v, not %v", text, read, ok, list)
	}
	if again := impl.ShowRules(read); again != text {
		t.Fatalf("ShowRules of what is read of %q is %q", text, again)
	}
}

// askRead asks ReadRules of any text, and answers whether it is one.
func askRead(t *testing.T, text string) bool {
	t.Helper()
	want, wantOk := readByWords(text)
	got, ok := impl.ReadRules(text)
	if ok != wantOk || !sameRules(got, want) {
		t.Fatalf("ReadRules(%.200q) = %v, %v, not %v, %v", text, got, ok, want, wantOk)
	}
	if ok && (!impl.RulesOk(got) || impl.ShowRules(got) != text) {
		t.Fatalf("ReadRules(%.200q) = %v, which are told as %q", text, got, impl.ShowRules(got))
	}
	return ok
}

func askIsNoText(t *testing.T, what, text string) {
	t.Helper()
	if got, ok := impl.ReadRules(text); ok || len(got) != 0 {
		t.Errorf("%s: ReadRules(%.200q) = %v, %v", what, text, got, ok)
	}
}

func askAreNoRules(t *testing.T, what string, list []impl.Rule) {
	t.Helper()
	if rulesByWords(list) || impl.RulesOk(list) {
		t.Fatalf("%s: RulesOk", what)
	}
	if got := impl.ShowRules(list); got != "" {
		t.Errorf("%s: ShowRules is %.200q", what, got)
	}
	for _, key := range append(prefixesOf(list), "", "a", "ab", "b", "~", "~~", "000", " ", "\x00", "\xff") {
		for _, key := range []string{key, key + "x"} {
			if got, there := impl.RuleFor(list, key); there || got != (impl.Rule{}) {
				t.Fatalf("%s: RuleFor %.200q is %v, %v", what, key, got, there)
			}
			if impl.May(list, key, false) || impl.May(list, key, true) {
				t.Fatalf("%s: May %.200q", what, key)
			}
		}
	}
}

func TestRulesKnown(t *testing.T) {
	list := []impl.Rule{rule("--", ""), rule("r-", "svc/"), rule("-w", "svc/b"), rule("rw", "x")}
	text := "--  r- svc/ -w svc/b rw x"
	if got := impl.ShowRules(list); got != text || !impl.RulesOk(list) {
		t.Errorf("ShowRules is %q", got)
	}
	if got, ok := impl.ReadRules(text); !ok || !sameRules(got, list) {
		t.Errorf("ReadRules is %v, %v", got, ok)
	}
	for key, want := range map[string]impl.Rule{"": list[0], "s": list[0], "svc": list[0], "svc/": list[1], "svc/a": list[1], "svc/b": list[2], "svc/bb": list[2], "svc/B": list[1], "x": list[3], "xyz": list[3], "X": list[0], "\x00": list[0], "\xff": list[0], " svc/": list[0]} {
		if got, there := impl.RuleFor(list, key); !there || got != want {
			t.Errorf("RuleFor %q is %v, %v", key, got, there)
		}
		if impl.May(list, key, false) != want.Read || impl.May(list, key, true) != want.Write {
			t.Errorf("May %q is %v, %v", key, impl.May(list, key, false), impl.May(list, key, true))
		}
	}
	for _, key := range []string{"", "s", "svc", "Svc/", "y", "\xff"} {
		if got, there := impl.RuleFor(list[1:], key); there || got != (impl.Rule{}) || impl.May(list[1:], key, false) || impl.May(list[1:], key, true) {
			t.Errorf("RuleFor %q is %v, %v", key, got, there)
		}
	}
}

func TestRulesOfNone(t *testing.T) {
	for _, none := range [][]impl.Rule{nil, {}, make([]impl.Rule, 0, 5)} {
		if !impl.RulesOk(none) || impl.ShowRules(none) != "" {
			t.Error("none are not RulesOk, or told")
		}
		for _, key := range []string{"", "a", "\x00", "\xff"} {
			if fit := askRuleFor(t, none, key); fit != 0 {
				t.Error("one of none fits")
			}
		}
	}
	if got, ok := impl.ReadRules(""); !ok || len(got) != 0 {
		t.Errorf("ReadRules of the empty text is %v, %v", got, ok)
	}
}

func TestRulesAtTheirEdges(t *testing.T) {
	draw := drawFrom(1)
	for _, list := range edgeRules() {
		askShown(t, list)
		for _, key := range keysFor(draw, list) {
			askRuleFor(t, list, key)
		}
	}
}

func TestRulesByEachByte(t *testing.T) {
	for b := range 256 {
		for _, prefix := range []string{"%", "a%", "%a", "a%b", strings.Repeat("m", 39) + "%", "%" + strings.Repeat("m", 39), strings.Repeat("m", 20) + "%" + strings.Repeat("m", 19)} {
			prefix = strings.ReplaceAll(prefix, "%", string([]byte{byte(b)}))
			list := []impl.Rule{rule("rw", prefix)}
			if got := impl.RulesOk(list); got != (b >= 33 && b <= 126) {
				t.Fatalf("RulesOk of %q is %v", prefix, got)
			}
			if impl.RulesOk(list) {
				askShown(t, list)
				askRuleFor(t, list, prefix+"x")
			} else {
				askAreNoRules(t, prefix, list)
				askIsNoText(t, "a byte", "rw "+prefix)
			}
		}
	}
}

func TestRulesByTheirNumber(t *testing.T) {
	for n := range 300 {
		list := manyRules(n)
		if got := impl.RulesOk(list); got != (n <= 12) {
			t.Fatalf("RulesOk of %d is %v", n, got)
		}
		if n > 12 {
			askAreNoRules(t, fmt.Sprint(n), list)
		} else {
			askShown(t, list)
		}
	}
}

func TestRulesByTheLengthOfOne(t *testing.T) {
	for n := range 300 {
		prefix := "b" + strings.Repeat("~", n)
		list := []impl.Rule{rule("--", "a"), rule("rw", prefix), rule("-w", "c")}
		if got := impl.RulesOk(list); got != (len(prefix) <= 40) {
			t.Fatalf("RulesOk of a Prefix of %d bytes is %v", len(prefix), got)
		}
		if len(prefix) <= 40 {
			askShown(t, list)
			askRuleFor(t, list, prefix)
		} else {
			askAreNoRules(t, fmt.Sprint(len(prefix)), list)
			askIsNoText(t, fmt.Sprint(len(prefix)), "-- a rw "+prefix+" -w c")
		}
	}
}

// Any two and any three Prefixes that are close are RulesOk just where they rise.
func TestRulesRise(t *testing.T) {
	prefixes := []string{"", "!", "!!", "-", "A", "Z", "a", "a!", "a-", "aa", "ab", "a~", "b", "b!", "~", "~~"}
	for i, a := range prefixes {
		for j, b := range prefixes {
			list := []impl.Rule{rule("rw", a), rule("r-", b)}
			if got := impl.RulesOk(list); got != (i < j) {
				t.Fatalf("RulesOk of %q and %q is %v", a, b, got)
			}
			for k, c := range prefixes {
				list := []impl.Rule{rule("rw", a), rule("r-", b), rule("-w", c)}
				if got := impl.RulesOk(list); got != (i < j && j < k) {
					t.Fatalf("RulesOk of %q, %q and %q is %v", a, b, c, got)
				}
				if i < j && j < k {
					askShown(t, list)
				} else {
					askIsNoText(t, "no rise", "rw "+a+" r- "+b+" -w "+c)
				}
			}
		}
	}
}

func TestNoRules(t *testing.T) {
	for what, list := range noRules() {
		askAreNoRules(t, what, list)
	}
}

// One wrong Prefix, in each place among right ones, makes all of them wrong.
func TestNoRulesByOneInEachPlace(t *testing.T) {
	for n := 1; n <= 12; n++ {
		for at := range n {
			for _, tail := range []string{" ", "\x7f", "\x00", "\xff", "\n", strings.Repeat("z", 38)} {
				list := manyRules(n)
				list[at].Prefix += tail
				askAreNoRules(t, fmt.Sprintf("%q at %d of %d", tail, at, n), list)
			}
			if at > 0 {
				list := manyRules(n)
				list[at].Prefix = list[at-1].Prefix
				askAreNoRules(t, fmt.Sprintf("one twice, at %d of %d", at, n), list)
				list = manyRules(n)
				list[at], list[at-1] = list[at-1], list[at]
				askAreNoRules(t, fmt.Sprintf("two changed about, at %d of %d", at, n), list)
			}
		}
	}
}

// Promise 14: the longest Prefix says.
func TestPromise14DrawnRulesAndKeys(t *testing.T) {
	draw := drawFrom(41)
	byKind := drawnRules()
	for _, what := range slices.Sorted(maps.Keys(byKind)) {
		byFit := map[int]int{}
		for _, list := range byKind[what] {
			for _, key := range keysFor(draw, list) {
				byFit[min(askRuleFor(t, list, key), 3)]++
			}
			for range 40 {
				key := make([]byte, draw(12))
				for i := range key {
					key[i] = "ab!~c/\x00\xff "[draw(9)]
				}
				byFit[min(askRuleFor(t, list, string(key)), 3)]++
			}
		}
		if byFit[0] == 0 && what != "any" && what != "a chain" || byFit[1] == 0 && what != "none" {
			t.Errorf("%s: of the keys %v have 0, 1, 2, and more that fit", what, byFit)
		}
		begins := slices.Contains([]string{"a chain", "some of a chain", "close", "close, no empty", "like words", "any"}, what)
		if begins != (byFit[2] > 0) {
			t.Errorf("%s: of the keys %v have 0, 1, 2, and more that fit", what, byFit)
		}
	}
}

// Promise 14: whatever the shorter ones say. Each of four that begin one another lets each of the four.
func TestPromise14WhateverTheShorterOnesSay(t *testing.T) {
	prefixes := []string{"", "s", "sv", "svc"}
	for drawn := range 256 {
		list := []impl.Rule{}
		for i, prefix := range prefixes {
			list = append(list, rule(fourLets[drawn>>(2*i)&3], prefix))
		}
		askShown(t, list)
		for skip := range 16 {
			part := []impl.Rule{}
			for i, r := range list {
				if skip>>i&1 == 0 {
					part = append(part, r)
				}
			}
			for _, key := range []string{"", "s", "sv", "svc", "svc/", "sx", "svx", "x", "vc"} {
				askRuleFor(t, part, key)
				for _, write := range []bool{false, true} {
					if got := impl.May(part, key, write); got != mayByWords(part, key, write) {
						t.Fatalf("May(%v, %q, %v) is %v", part, key, write, got)
					}
				}
			}
		}
	}
}

// A key that begins with a chain of 12 is told by the last one of it, up to 40 bytes.
func TestPromise14ChainsOfTwelve(t *testing.T) {
	word := strings.Repeat("abc/", 10)
	for from := 0; from+11 <= 40; from++ {
		list := []impl.Rule{}
		for i := range 12 {
			list = append(list, rule(fourLets[i%4], word[:from+i]))
		}
		askShown(t, list)
		for n := range 41 {
			for _, tail := range []string{"", "~", "\x00", word} {
				key := word[:n] + tail
				askRuleFor(t, list, key)
			}
			want := min(n, from+11)
			if got, there := impl.RuleFor(list, word[:n]); there != (n >= from) || there && got.Prefix != word[:want] {
				t.Fatalf("from %d on: RuleFor %q is %v, %v", from, word[:n], got, there)
			}
		}
	}
}

// Promise 14: ReadRules of ShowRules are the Rules.
func TestPromise14ReadRulesOfShowRules(t *testing.T) {
	texts := map[string][]impl.Rule{}
	for _, list := range append(allDrawnRules(), edgeRules()...) {
		askShown(t, list)
		text := impl.ShowRules(list)
		if other, known := texts[text]; known && !sameRules(other, list) {
			t.Fatalf("%v and %v are told as one, %q", list, other, text)
		}
		texts[text] = list
	}
	if len(texts) < 200 {
		t.Errorf("only %d different ones", len(texts))
	}
}

// Promise 14: each text of few bytes that are close to those of ShowRules.
func TestPromise14EachShortText(t *testing.T) {
	right := 0
	texts := []string{""}
	for range 9 {
		next := []string{}
		for _, text := range texts {
			if askRead(t, text) {
				right++
			}
			for _, b := range []string{"-", "r", "w", " ", "a"} {
				next = append(next, text+b)
			}
		}
		texts = next
	}
	if right < 500 {
		t.Errorf("only %d of them are Rules", right)
	}
}

// changedTexts are all texts that are one byte away: one more, one less, one other, two changed about.
func changedTexts(text string) []string {
	texts := []string{}
	marks := []string{"-", "r", "w", "R", "x", " ", "!", "~", "\x00", "\n", "\t", "\x1f", "\x7f", "\x80", "\xff", "\u00a0"}
	for i := range len(text) + 1 {
		for _, mark := range marks {
			texts = append(texts, text[:i]+mark+text[i:])
			if i < len(text) {
				texts = append(texts, text[:i]+mark+text[i+1:])
			}
		}
		if i < len(text) {
			texts = append(texts, text[:i]+text[i+1:], text[:i])
		}
		if i+1 < len(text) {
			texts = append(texts, text[:i]+text[i+1:i+2]+text[i:i+1]+text[i+2:])
		}
	}
	return texts
}

// Promise 14: what is one byte away from what ShowRules tells is read only where ShowRules tells it, too.
func TestPromise14TextsChangedInOneByte(t *testing.T) {
	right, wrong := 0, 0
	for i, list := range append(edgeRules(), allDrawnRules()...) {
		if i%5 != 0 {
			continue
		}
		text := impl.ShowRules(list)
		for _, other := range changedTexts(text) {
			if askRead(t, other) {
				right++
			} else {
				wrong++
			}
			if got, ok := impl.ReadRules(other); ok && other != text && sameRules(got, list) {
				t.Fatalf("%q and %q are read as the same", text, other)
			}
		}
	}
	if right < 1000 || wrong < 1000 {
		t.Errorf("%d are right, %d wrong", right, wrong)
	}
}

func TestNoTextOfRules(t *testing.T) {
	thirteen := "rw 000 rw 001 rw 002 rw 003 rw 004 rw 005 rw 006 rw 007 rw 008 rw 009 rw 010 rw 011 rw 012"
	for what, text := range map[string]string{
		"a blank alone":                      " ",
		"two blanks":                         "  ",
		"what it lets alone":                 "rw",
		"one letter":                         "r",
		"a -":                                "-",
		"a Prefix alone":                     "svc/",
		"three words":                        "r- a r-",
		"three words, the last a Prefix":     "r- a b",
		"a letter more":                      "rw- a",
		"a letter more ahead":                "rrw a",
		"a letter less":                      "r a",
		"only a -":                           "- a",
		"no letter":                          " a",
		"another letter":                     "x- a",
		"another second letter":              "rx a",
		"great letters":                      "RW a",
		"r twice":                            "rr a",
		"w twice":                            "ww a",
		"w ahead of r":                       "wr a",
		"w first":                            "w- a",
		"r second":                           "-r a",
		"a blank between them":               "r w a",
		"a blank for a -":                    "r  a",
		"no blank":                           "r-a",
		"no blank between two":               "r- arw b",
		"two blanks ahead of a Prefix":       "r-  a",
		"two blanks between two":             "r- a  rw b",
		"a blank ahead":                      " r- a",
		"a blank behind":                     "r- a ",
		"a blank behind the empty Prefix":    "r-  ",
		"two blanks behind":                  "r- a  ",
		"a blank behind two":                 "r- a rw b ",
		"a newline behind":                   "r- a\n",
		"a newline ahead":                    "\nr- a",
		"a newline for a blank":              "r-\na",
		"a tab for a blank":                  "r-\ta",
		"a hard blank":                       "r-\u00a0a",
		"no rise":                            "r- b r- a",
		"a Prefix twice":                     "r- a rw a",
		"a Rule twice":                       "r- a r- a",
		"the empty Prefix twice":             "r-  r- ",
		"the empty Prefix twice, and one":    "r-  r-  r- a",
		"the empty Prefix last":              "r- a r- ",
		"begins the one ahead":               "r- ab r- a",
		"thirteen":                           thirteen,
		"thirteen, the first empty":          "rw  " + thirteen[:len(thirteen)-len(" rw 012")],
		"41 bytes":                           "rw " + strings.Repeat("a", 41),
		"41 bytes, behind":                   "rw a rw " + strings.Repeat("b", 41),
		"41 bytes, ahead":                    "rw " + strings.Repeat("a", 41) + " rw b",
		"296 bytes":                          "rw " + strings.Repeat("a", 296),
		"byte 0":                             "rw a\x00",
		"byte 31":                            "rw \x1fa",
		"byte 127":                           "rw a\x7fb",
		"byte 128":                           "rw \x80",
		"byte 255":                           "rw \xff",
		"a rune":                             "rw \u00e9",
		"what it lets behind the Prefix":     "a rw",
		"in another order":                   "svc/ r- svc/b --",
		"a comma between":                    "r- a,rw b",
		"a sign of its own":                  "r+ a",
		"in brackets":                        "[r- a]",
		"of a great many words":              strings.Repeat("rw a ", 20000),
		"of a great many blanks":             strings.Repeat(" ", 20001),
		"of a great many letters":            strings.Repeat("r", 20000),
		"the longest one and a blank behind": impl.ShowRules(edgeRules()[len(edgeRules())-1]) + " ",
	} {
		askIsNoText(t, what, text)
		if askRead(t, text) {
			t.Errorf("%s: %q is read", what, text)
		}
	}
}

// Texts of any words, in any number, with one blank or more between them.
func TestPromise14TextsOfDrawnWords(t *testing.T) {
	draw := drawFrom(2)
	words := []string{"--", "-w", "r-", "rw", "--", "rw", "", "a", "ab", "b", "r", "w", "svc/", strings.Repeat("x", 40), strings.Repeat("x", 41), "a\x00", "wr"}
	right := map[int]int{}
	for range 40000 {
		list := []string{}
		for i := range draw(9) {
			at := draw(len(words))
			if draw(5) > 0 {
				at = []int{draw(6), 6 + draw(8)}[i%2]
			}
			list = append(list, words[at])
		}
		text := strings.Join(list, " ")
		if askRead(t, text) {
			got, _ := impl.ReadRules(text)
			right[len(got)]++
		}
	}
	if right[0] < 100 || right[1] < 100 || right[2] < 100 || right[3] < 20 {
		t.Errorf("so many are right, by number: %v", right)
	}
}

// Any Rules and any text: they are as the chapter says, and nothing panics.
func TestRulesOfAnyBytes(t *testing.T) {
	draw := drawFrom(3)
	anyText := func(most int) string {
		bytes := make([]byte, draw(most+1))
		for i := range bytes {
			bytes[i] = []byte{byte(draw(256)), byte(33 + draw(94)), "-rw "[draw(4)], 'a'}[draw(4)]
		}
		return string(bytes)
	}
	right := 0
	for range 20000 {
		list := []impl.Rule{}
		for range draw(5) {
			list = append(list, rule(fourLets[draw(4)], anyText(2)))
		}
		if draw(3) > 0 {
			slices.SortFunc(list, func(a, b impl.Rule) int { return strings.Compare(a.Prefix, b.Prefix) })
		}
		key := anyText(4)
		got, there := impl.RuleFor(list, key)
		if want, wantThere := ruleForByWords(list, key); got != want || there != wantThere {
			t.Fatalf("RuleFor(%v, %q) = %v, %v", list, key, got, there)
		}
		if impl.RulesOk(list) != rulesByWords(list) || impl.ShowRules(list) != showByWords(list) {
			t.Fatalf("%v: RulesOk %v, ShowRules %q", list, impl.RulesOk(list), impl.ShowRules(list))
		}
		if impl.RulesOk(list) {
			askShown(t, list)
			right++
		}
		askRead(t, anyText(60))
	}
	if right < 1000 || right > 19000 {
		t.Errorf("%d are RulesOk", right)
	}
}

// ruleArguments are right and wrong lists.
func ruleArguments() [][]impl.Rule {
	lists := someRules()
	wrong := noRules()
	for i, what := range slices.Sorted(maps.Keys(wrong)) {
		if i%20 == 0 || !strings.Contains(what, "byte") {
			lists = append(lists, wrong[what])
		}
	}
	return lists
}

// ruleAnswers are all that can be asked of one list and key.
func ruleAnswers(list []impl.Rule, key string) string {
	r, there := impl.RuleFor(list, key)
	text := impl.ShowRules(list)
	read, ok := impl.ReadRules(text)
	return fmt.Sprintf("%v %v %v %v %v %q %v %v", impl.RulesOk(list), r, there, impl.May(list, key, false), impl.May(list, key, true), text, read, ok)
}

var scribbledRule = impl.Rule{Prefix: "scribble", Read: true, Write: true}

// Promise 21 of chapter 14: arguments stay as they are, with the spare room behind them.
func TestPromise21RuleArgumentsStay(t *testing.T) {
	draw := drawFrom(21)
	for _, list := range ruleArguments() {
		for _, room := range []int{0, 1, 20} {
			given, all := roomyOf(list, room, scribbledRule)
			was := slices.Clone(all)
			for _, key := range keysFor(draw, list) {
				ruleAnswers(given, key)
			}
			if !slices.Equal(all, was) {
				t.Fatalf("%v became %v", was, all)
			}
		}
	}
}

// Promise 21 of chapter 14: what was answered stays when the argument is written over.
func TestPromise21RuleAnswersStay(t *testing.T) {
	draw := drawFrom(22)
	for _, list := range ruleArguments() {
		for _, key := range firstOf(keysFor(draw, list), 60) {
			given := slices.Clone(list)
			got, there := impl.RuleFor(given, key)
			text := impl.ShowRules(given)
			scribbleOn(given, scribbledRule)
			if want, wantThere := ruleForByWords(list, key); got != want || there != wantThere || text != showByWords(list) {
				t.Fatalf("RuleFor(%v, %q) became %v, ShowRules %q", list, key, got, text)
			}
		}
	}
}

// Promise 21 of chapter 14: what is written into one answer of ReadRules, or behind it, changes no other answer.
func TestPromise21RuleAnswersAreApart(t *testing.T) {
	texts := []string{"", "x", " ", "rr a", "r- b r- a"}
	for _, list := range someRules() {
		texts = append(texts, impl.ShowRules(list))
	}
	for _, text := range texts {
		want, wantOk := readByWords(text)
		first, _ := impl.ReadRules(text)
		second, _ := impl.ReadRules(text)
		scribbleOn(first, scribbledRule)
		if !sameRules(second, want) {
			t.Fatalf("%q: a second answer became %v", text, second)
		}
		if third, ok := impl.ReadRules(text); ok != wantOk || !sameRules(third, want) {
			t.Fatalf("ReadRules(%q) became %v, %v", text, third, ok)
		}
		scribbleOn(second, scribbledRule)
		none, ok := impl.ReadRules("")
		if !ok || len(none) != 0 {
			t.Fatalf("ReadRules of the empty text became %v, %v", none, ok)
		}
	}
}

// Promise 21 of chapter 14: two that go on from one answer do not write over each other.
func TestPromise21RuleTwoWaysOn(t *testing.T) {
	for _, list := range someRules() {
		text := impl.ShowRules(list)
		read, _ := impl.ReadRules(text)
		one := append(read, rule("rw", "one"))
		again, _ := impl.ReadRules(text)
		other := append(again, rule("--", "other"))
		if one[len(list)] != rule("rw", "one") || other[len(list)] != rule("--", "other") || !sameRules(one[:len(list)], list) || !sameRules(other[:len(list)], list) {
			t.Fatalf("from %q came %v and %v", text, one, other)
		}
	}
}

// Promise 21 of chapter 14: two calls with the same arguments answer the same, whatever was asked between them.
func TestPromise21RuleAgain(t *testing.T) {
	draw := drawFrom(23)
	lists := ruleArguments()
	keys, first := [][]string{}, [][]string{}
	for _, list := range lists {
		some := keysFor(draw, list)
		answers := []string{}
		for _, key := range some {
			answers = append(answers, ruleAnswers(list, key))
		}
		keys, first = append(keys, some), append(first, answers)
	}
	for i, list := range lists {
		for j, key := range keys[i] {
			if got := ruleAnswers(slices.Clone(list), key); got != first[i][j] {
				t.Fatalf("of %v and %q: %s, then %s", list, key, first[i][j], got)
			}
		}
	}
}
