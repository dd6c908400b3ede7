package tests

import (
	"fmt"
	"maps"
	"math"
	"slices"
	"strings"
	"sync"
	"testing"

	"loop.example/g00307/impl"
)

// stays says why an Act stays as it is; empty where it becomes Blind.
func stays(a impl.Act, rules []impl.Rule) string {
	switch {
	case a.Kind != 1:
		return "another Kind"
	case a.Token != "root":
		return "by another Token"
	case len(a.Key) < 4 || a.Key[:4] != "svc/":
		return "another Key"
	case len(a.Key) == 4:
		return "nothing behind svc/"
	case mayByWords(rules, a.Key, false):
		return "it may be read"
	case a.Gone:
		return "Gone"
	case len(a.Value) > 40:
		return "too long"
	}
	return ""
}

func blindByWords(list []impl.Act, rules []impl.Rule) []impl.Act {
	if !rulesByWords(rules) || len(list) > 200 {
		return nil
	}
	blind := slices.Clone(list)
	for i := range blind {
		if stays(list[i], rules) == "" {
			blind[i].Value = "-"
		}
	}
	return blind
}

func askedByWords(list []impl.Act, token string) int64 {
	byToken := map[string]int64{}
	for _, a := range list {
		if a.Kind == 4 {
			byToken[a.Query.Token]++
		}
	}
	return byToken[token]
}

func completeByWords(c impl.Cluster) bool {
	logs := 0
	for _, n := range c.Nodes {
		if logByWords(n.Log) {
			logs++
		}
	}
	return clusterByWords(c) && logs == len(c.Nodes)
}

// askBlind holds Blind against the second reading, and wants all but Values to stay.
func askBlind(t *testing.T, list []impl.Act, token string, rules []impl.Rule) []impl.Act {
	t.Helper()
	got, want := impl.Blind(list, token, rules), blindByWords(list, rules)
	if !slices.Equal(got, want) {
		t.Fatalf("Blind(%.600v, %.50q, %.300v) is %.600v, not %.600v", list, token, rules, got, want)
	}
	for i, a := range got {
		if a.Value = list[i].Value; a != list[i] {
			t.Fatalf("%v became %v", list[i], got[i])
		}
	}
	return got
}

// askBlindness wants of one Act alone that it becomes Blind, or stays.
func askBlindness(t *testing.T, a impl.Act, rules []impl.Rule, is bool) {
	t.Helper()
	want := a
	if is {
		want.Value = "-"
	}
	if got := askBlind(t, []impl.Act{a}, "ann", rules); len(got) != 1 || got[0] != want {
		t.Errorf("by %v: %v became %v, not %v", rules, a, got, want)
	}
}

// answered plays a script, and tells of each AcAsk that is done what it is answered.
func answered(t *testing.T, c impl.Cluster, list []impl.Act, tell func(impl.Act, impl.Answer)) impl.Cluster {
	t.Helper()
	next, answers := impl.Play(c, list)
	for _, a := range list {
		if a.Kind == impl.AcAsk && a.Node >= 0 && a.Node < int64(len(c.Nodes)) {
			tell(a, answers[0])
			answers = answers[1:]
		}
	}
	if len(answers) > 0 {
		t.Fatalf("%d Answers to nobody", len(answers))
	}
	return next
}

// answersTo has by the Token who was answered what, in order.
func answersTo(t *testing.T, c impl.Cluster, list []impl.Act) map[string][]impl.Answer {
	t.Helper()
	byToken := map[string][]impl.Answer{}
	answered(t, c, list, func(a impl.Act, answer impl.Answer) {
		byToken[a.Query.Token] = append(byToken[a.Query.Token], answer)
	})
	return byToken
}

// askPromise19 wants all Answers to a Token to be the same behind a script and behind what Blind makes of it; it counts what else changes.
func askPromise19(t *testing.T, c impl.Cluster, list []impl.Act, token string, rules []impl.Rule, counts map[string]int) {
	t.Helper()
	blind := askBlind(t, list, token, rules)
	if len(blind) != len(list) || impl.Asked(blind, token) != impl.Asked(list, token) {
		t.Fatalf("of %d Acts come %d", len(list), len(blind))
	}
	answers, blindly := answersTo(t, c, list), answersTo(t, c, blind)
	if !sameAnswerLists(answers[token], blindly[token]) {
		t.Fatalf("%q, by %v, is answered %.900v\nand blindly %.900v\nbehind %v", token, rules, answers[token], blindly[token], list)
	}
	for _, a := range answers[token] {
		counts[fmt.Sprint("Code ", a.Code)]++
	}
	if !slices.Equal(blind, list) {
		counts["another script"]++
	}
	played, _ := impl.Play(c, list)
	if other, _ := impl.Play(c, blind); !sameClusters(other, played) {
		counts["another Cluster"]++
	}
	for other := range answers {
		if !sameAnswerLists(answers[other], blindly[other]) {
			counts["other Answers to another Token"]++
		}
	}
}

// auditTokens ask in the scripts; root, which writes, has to ask by rules, too, and nobody never has any.
var auditTokens = []string{"ann", "bob", "cid", "root", "nobody"}

// auditTexts are Rules that let some be read and others not.
var auditTexts = []string{"r- svc/", "r- svc/ -- svc/b", "-- svc/ r- svc/a", "r- svc/b", "r-  -w svc/b rw svc/b.", "-w svc/", "rw svc/a", "rw svc/ -- svc/c r- svc/c.", "-w svc/ r- svc/a rw svc/b -- svc/b.", "", "r- acl/", "-- ", "rw ", "r- svc", "r- svc/a -- svc/a."}

var auditNames = []string{"a", "b", "b.c", "c", "a.a", "c.b", "bb"}

// auditScripts draw scripts; each Token has one and the same Rules wherever and whenever it has any.
type auditScripts struct {
	draw  func(int) int
	nodes int64
	texts map[string]string
}

func newAuditScripts(seed uint32, nodes int64) auditScripts {
	s := auditScripts{drawFrom(seed), nodes, map[string]string{}}
	for _, token := range auditTokens[:4] {
		s.texts[token] = s.of(auditTexts)
	}
	return s
}

func (s auditScripts) of(list []string) string { return list[s.draw(len(list))] }

// rules are those of the text, none of a Token that has none.
func (s auditScripts) rules(token string) []impl.Rule {
	rules, _ := readByWords(s.texts[token])
	return rules
}

// node is mostly there, else just out of range.
func (s auditScripts) node() int64 {
	if s.draw(25) == 0 {
		return []int64{-1, s.nodes}[s.draw(2)]
	}
	return int64(s.draw(int(s.nodes)))
}

func (s auditScripts) value() string {
	return s.of([]string{"", "-", "--", "1", "2", "10.0.0.1", "r- svc/", fmt.Sprint(s.draw(1000)), strings.Repeat("v", 40), strings.Repeat("v", 41)})
}

func (s auditScripts) service() impl.Act {
	a := write(s.node(), "root", "svc/"+s.of(auditNames), s.value())
	switch s.draw(10) {
	case 0:
		a.Key = s.of([]string{"svc/", "svc", "svc/A", "svc/a/b", "svc/" + strings.Repeat("b", 36), "svc/" + strings.Repeat("b", 37), "svca"})
	case 1:
		a.Gone, a.Value = true, ""
	case 2:
		a.Gone = s.draw(3) == 0
	}
	return a
}

func (s auditScripts) asking() impl.Act {
	name := s.of(auditNames) + ".zone"
	if s.draw(6) == 0 {
		name = s.of([]string{"zone", "", "x.zone", "a", ".", "a.b.c.zone"})
	}
	q := impl.Query{Source: int64(s.draw(4)), Token: s.of(auditTokens), Name: name, Type: impl.TyA, Size: 500}
	switch s.draw(8) {
	case 0:
		q.Type = int64(s.draw(7))
	case 1:
		q.Size = int64(s.draw(40)) - 2
	}
	return askOf(s.node(), q)
}

func (s auditScripts) act() impl.Act {
	token := s.of(auditTokens[:4])
	switch kind := s.draw(20); {
	case kind < 6:
		return s.service()
	case kind < 8:
		return write(s.node(), token, "svc/"+s.of(auditNames), s.value())
	case kind == 8 && s.draw(3) == 0:
		return revoke(s.node(), "root", "acl/"+token)
	case kind < 10:
		return write(s.node(), "root", "acl/"+token, s.texts[token])
	case kind < 13:
		return tell(s.node(), s.node())
	case kind == 13:
		return []impl.Act{tickAct, stepOf(s.node()), {Kind: int64(s.draw(8)), Token: "root", Key: "svc/b", Value: "9"}}[s.draw(3)]
	}
	return s.asking()
}

// script is of n Acts; the first ones let the Tokens have their Rules at some Node.
func (s auditScripts) script(n int) []impl.Act {
	list := []impl.Act{}
	for _, token := range auditTokens[:4] {
		if s.draw(8) > 0 {
			list = append(list, write(s.node(), "root", "acl/"+token, s.texts[token]))
		}
	}
	for len(list) < n {
		list = append(list, s.act())
	}
	return list[:n]
}

func TestAuditKnown(t *testing.T) {
	list := []impl.Act{
		write(0, "root", "acl/ann", "r- svc/ -- svc/b"), write(0, "root", "acl/bob", "r- svc/b"), write(0, "root", "svc/a", "1"), write(0, "root", "svc/b", "2"),
		askOf(0, ask("a.zone")), askOf(0, ask("b.zone")), askOf(0, impl.Query{Token: "bob", Name: "b.zone", Type: impl.TyA, Size: 99}), tell(0, 1), askOf(1, ask("b.zone")),
	}
	rules := []impl.Rule{rule("r-", "svc/"), rule("--", "svc/b")}
	blind := impl.Blind(list, "ann", rules)
	want := slices.Clone(list)
	want[3].Value = "-"
	if !slices.Equal(blind, want) {
		t.Fatalf("%v", blind)
	}
	if ann, bob, cid := impl.Asked(list, "ann"), impl.Asked(list, "bob"), impl.Asked(list, "cid"); ann != 3 || bob != 1 || cid != 0 {
		t.Errorf("%d, %d, %d", ann, bob, cid)
	}
	c := mustCluster(t, "zone", 2)
	answers, blindly := answersTo(t, c, list), answersTo(t, c, blind)
	if !sameAnswerLists(answers["ann"], blindly["ann"]) || len(answers["ann"]) != 3 || answers["ann"][0].Records[0].Text != "1" || answers["ann"][1].Code != impl.QuNone {
		t.Errorf("ann: %v\nblindly: %v", answers["ann"], blindly["ann"])
	}
	if answers["bob"][0].Records[0].Text != "2" || blindly["bob"][0].Records[0].Text != "-" {
		t.Errorf("bob: %v\nblindly: %v", answers["bob"], blindly["bob"])
	}
	c, _ = impl.Play(c, list)
	if !impl.Complete(c) || !slices.Equal(c.Nodes[0].Log, linesOf("0 3 0", "0 3 1", "0 3 0")) || !slices.Equal(c.Nodes[1].Log, linesOf("0 3 1")) {
		t.Errorf("%v, %v", c.Nodes[0].Log, c.Nodes[1].Log)
	}
	c.Nodes[1].Log[0].Text = "0 3 0"
	if impl.Complete(c) {
		t.Error("what was said is another thing")
	}
}

// Promise 19: of drawn scripts, by each Token that asks, of new clusters of each number of Nodes.
func TestPromise19NobodySeesWhatItMayNot(t *testing.T) {
	t.Parallel()
	counts := map[string]int{}
	for run := range 320 {
		nodes := int64(1 + run%4)
		s := newAuditScripts(uint32(19000+run), nodes)
		c, list := mustCluster(t, "zone", nodes), s.script(100-s.draw(2)*s.draw(100))
		for _, token := range auditTokens {
			askPromise19(t, c, list, token, s.rules(token), counts)
		}
		countHidden(t, c, list, s, counts)
	}
	askCounts(t, counts, 100, "Code 0", "Code 1", "Code 2", "Code 3", "Code 4", "Code 5", "another script", "another Cluster", "other Answers to another Token", "asked for what is hidden")
}

// countHidden counts how often one asks a Node for what stands in its Book, and the Rules do not let one read.
func countHidden(t *testing.T, c impl.Cluster, list []impl.Act, s auditScripts, counts map[string]int) {
	t.Helper()
	for _, a := range list {
		next, answer, ok := impl.Happen(c, a)
		key := "svc/" + strings.TrimSuffix(a.Query.Name, ".zone")
		if a.Kind == impl.AcAsk && ok && !mayByWords(s.rules(a.Query.Token), key, false) {
			if _, there := impl.ValueOf(c.Nodes[a.Node].Replica.Book, key); there {
				counts["asked for what is hidden"]++
				if len(answer.Records) > 0 {
					t.Fatalf("%v is answered %v", a.Query, answer)
				}
			}
		}
		c = next
	}
}

// Promise 19 ends at 100 Acts, ahead of any Step that is done; so it is also behind longer scripts, where keys roll.
func TestPromise19WhereKeysRoll(t *testing.T) {
	t.Parallel()
	counts := map[string]int{}
	for run := range 40 {
		nodes := int64(1 + run%4)
		s := newAuditScripts(uint32(19500+run), nodes)
		c, _ := impl.Play(mustCluster(t, "zone", nodes), slices.Repeat([]impl.Act{tickAct}, 101))
		list := append([]impl.Act{stepOf(0), stepOf(nodes - 1)}, s.script(198)...)
		for _, token := range auditTokens {
			askPromise19(t, c, list, token, s.rules(token), counts)
		}
	}
	askCounts(t, counts, 50, "Code 0", "Code 1", "another script", "another Cluster", "other Answers to another Token")
}

// Promise 19: what may not be read may be any Value, not - alone: two scripts of which Blind makes the same are answered alike.
func TestPromise19WhateverTheHiddenValues(t *testing.T) {
	t.Parallel()
	changed := 0
	for run := range 160 {
		nodes := int64(1 + run%4)
		s := newAuditScripts(uint32(19700+run), nodes)
		c, list := mustCluster(t, "zone", nodes), s.script(100)
		for _, token := range auditTokens {
			rules := s.rules(token)
			other := slices.Clone(list)
			for i, a := range other {
				if stays(a, rules) == "" {
					other[i].Value = otherValues[s.draw(len(otherValues))]
				}
			}
			if !slices.Equal(impl.Blind(other, token, rules), impl.Blind(list, token, rules)) {
				t.Fatalf("Blind tells %v from %v", list, other)
			}
			answers, others := answersTo(t, c, list), answersTo(t, c, other)
			if !sameAnswerLists(answers[token], others[token]) {
				t.Fatalf("%q, by %v, is answered %.900v\nand then %.900v", token, rules, answers[token], others[token])
			}
			for _, reader := range auditTokens {
				if !sameAnswerLists(answers[reader], others[reader]) {
					changed++
				}
			}
		}
	}
	if changed < 50 {
		t.Errorf("only %d Tokens were answered otherwise", changed)
	}
}

// Promise 19: all scripts of 4 Acts out of a few, between the same Acts that let ann read and that ask.
func TestPromise19EachShortScript(t *testing.T) {
	t.Parallel()
	few := []impl.Act{
		write(0, "root", "svc/a", "1"), write(1, "root", "svc/b", "2"), write(0, "root", "svc/b", "3"), revoke(0, "root", "svc/b"),
		write(0, "ann", "svc/b", "5"), tell(0, 1), tell(1, 0), askOf(0, ask("b.zone")),
	}
	first := []impl.Act{write(0, "root", "acl/ann", "r- svc/ -w svc/b"), tell(0, 1), write(1, "root", "acl/bob", "r- svc/b")}
	bob := impl.Query{Source: 1, Token: "bob", Name: "b.zone", Type: impl.TyA, Size: 500}
	last := []impl.Act{askOf(0, ask("a.zone")), askOf(1, ask("a.zone")), askOf(0, ask("b.zone")), askOf(1, ask("b.zone")), askOf(1, bob)}
	rules := []impl.Rule{rule("r-", "svc/"), rule("-w", "svc/b")}
	counts := map[string]int{}
	c := mustCluster(t, "zone", 2)
	for i := range 8 * 8 * 8 * 8 {
		middle := []impl.Act{few[i%8], few[i/8%8], few[i/64%8], few[i/512]}
		askPromise19(t, c, slices.Concat(first, middle, last), "ann", rules, counts)
	}
	askCounts(t, counts, 100, "Code 0", "Code 1", "another script", "another Cluster", "other Answers to another Token")
}

// everHad are all Rules that a Token has at any Node at any time of a script.
func everHad(c impl.Cluster, list []impl.Act, token string) [][]impl.Rule {
	had := [][]impl.Rule{}
	for _, a := range list {
		c, _, _ = impl.Happen(c, a)
		for _, n := range c.Nodes {
			rules, ok := impl.RulesOf(n.Replica.Book, token)
			if ok && !slices.ContainsFunc(had, func(other []impl.Rule) bool { return sameRules(rules, other) }) {
				had = append(had, rules)
			}
		}
	}
	return had
}

// anyOf are Rules that let read just what some of these do: of each Prefix they say what that one does.
func anyOf(lists [][]impl.Rule) []impl.Rule {
	reads := map[string]bool{}
	for _, list := range lists {
		for _, prefix := range prefixesOf(list) {
			for _, other := range lists {
				reads[prefix] = reads[prefix] || mayByWords(other, prefix, false)
			}
		}
	}
	rules := []impl.Rule{}
	for _, prefix := range slices.Sorted(maps.Keys(reads)) {
		rules = append(rules, impl.Rule{Prefix: prefix, Read: reads[prefix]})
	}
	return rules
}

// Promise 19: where the Rules of a Token change, what it may not read is what none of them lets it read: what it was told ahead it was told.
func TestPromise19RulesThatChange(t *testing.T) {
	t.Parallel()
	counts := map[string]int{}
	for run := range 120 {
		p := newPalette(uint32(19800 + run))
		c := mustCluster(t, "zone", int64(1+run%4))
		list := p.script(c, 100, []int{0, 2}[run/4%2])
		for i, a := range list {
			if a.Kind == impl.AcWrite && p.draw(2) == 0 && strings.HasPrefix(a.Key, "svc/") {
				list[i].Token = "root"
			}
		}
		for _, token := range []string{"ann", "bob", "cid", "root", "nobody"} {
			had := everHad(c, list, token)
			rules := anyOf(had)
			if len(rules) > 12 {
				counts["too many"]++
				continue
			}
			if len(had) > 1 {
				counts["several Rules"]++
			}
			askPromise19(t, c, list, token, rules, counts)
		}
	}
	askCounts(t, counts, 50, "Code 0", "Code 1", "Code 4", "several Rules", "another script", "another Cluster", "other Answers to another Token")
	if counts["too many"] > 100 {
		t.Errorf("%d have too many Rules", counts["too many"])
	}
}

// Promise 19 is not so by chance: what a Token may read is no secret to it, and by Rules that hide it, it would be answered otherwise.
func TestPromise19WhatItMayRead(t *testing.T) {
	c := mustCluster(t, "zone", 2)
	for text, reads := range map[string]bool{"r- svc/": true, "rw svc/b": true, "-- svc/ r- svc/b": true, "r- ": true, "-w svc/": false, "r- svc/ -- svc/b": false, "r- svc/bb": false, "": false} {
		list := []impl.Act{write(0, "root", "acl/ann", text), write(0, "root", "svc/b", "2"), tell(0, 1), askOf(0, ask("b.zone")), askOf(1, ask("b.zone"))}
		rules, ok := readByWords(text)
		if !ok {
			t.Fatalf("%q", text)
		}
		blind, hidden := impl.Blind(list, "ann", rules), impl.Blind(list, "ann", nil)
		if slices.Equal(blind, list) != reads || hidden[1].Value != "-" {
			t.Errorf("%q: %v, and by no Rules %v", text, blind, hidden)
		}
		answers := answersTo(t, c, list)["ann"]
		if !sameAnswerLists(answers, answersTo(t, c, blind)["ann"]) {
			t.Errorf("%q: it is answered otherwise", text)
		}
		if sameAnswerLists(answers, answersTo(t, c, hidden)["ann"]) == reads {
			t.Errorf("%q: by no Rules %v", text, answers)
		}
	}
}

// blindRules let read svc/r and more, write svc/w and more, and nothing of svc/h and more; of svc/n there is none.
var blindRules = []impl.Rule{rule("rw", "acl/"), rule("--", "svc/h"), rule("r-", "svc/r"), rule("--", "svc/rh"), rule("-w", "svc/w")}

// fullAct has something in each field that Blind must leave alone.
func fullAct(key, value string) impl.Act {
	q := impl.Query{Source: 3, Token: "bob", Name: "svc/h", Type: 5, Size: -7}
	return impl.Act{Kind: impl.AcWrite, Node: -2, To: 9, Token: "root", Key: key, Value: value, Query: q}
}

// Blind by Keys: those of svc/ and more that no Rule lets one read, be they names or not.
func TestBlindKeys(t *testing.T) {
	long := strings.Repeat("h", 1000)
	for key, is := range map[string]bool{
		"svc/h": true, "svc/hh": true, "svc/rh": true, "svc/rhr": true, "svc/w": true, "svc/ww": true, "svc/n": true, "svc/a.b": true, "svc/H": true, "svc/.": true, "svc/ ": true, "svc/\x00": true, "svc//": true, "svc/svc/r": true, "svc/" + long[:36]: true, "svc/" + long[:37]: true, "svc/" + long: true,
		"svc/r": false, "svc/rr": false, "svc/r" + strings.Repeat("r", 1000): false, "svc/": false, "svc": false, "": false, "s": false, "svch": false, "svc.h": false, "Svc/h": false, "svd/h": false, " svc/h": false, "/svc/h": false, "asvc/h": false, "acl/ann": false, "acl/svc/h": false, "acl/": false, "h": false, "svc\\h": false,
	} {
		askBlindness(t, fullAct(key, "5"), blindRules, is)
		askBlindness(t, write(0, "root", key, "5"), blindRules, is)
	}
	for key := range strings.SplitSeq("svc/h svc/r svc/w svc/n svc/rh", " ") {
		askBlindness(t, fullAct(key, "5"), nil, true)
		askBlindness(t, fullAct(key, "5"), []impl.Rule{}, true)
		askBlindness(t, fullAct(key, "5"), []impl.Rule{rule("r-", "")}, false)
		askBlindness(t, fullAct(key, "5"), []impl.Rule{rule("rw", "svc/")}, false)
		askBlindness(t, fullAct(key, "5"), []impl.Rule{rule("-w", "svc/")}, true)
		askBlindness(t, fullAct(key, "5"), []impl.Rule{rule("--", "svc/")}, true)
		askBlindness(t, fullAct(key, "5"), []impl.Rule{rule("r-", ""), rule("-w", "svc/")}, true)
		askBlindness(t, fullAct(key, "5"), []impl.Rule{rule("r-", "acl/")}, true)
		askBlindness(t, fullAct(key, "5"), []impl.Rule{rule("r-", key)}, false)
		askBlindness(t, fullAct(key, "5"), []impl.Rule{rule("r-", key+"h")}, true)
	}
	for _, rules := range [][]impl.Rule{nil, {rule("--", "svc/")}, {rule("--", "")}} {
		for _, key := range []string{"svc/", "svc", "acl/ann", "a"} {
			askBlindness(t, fullAct(key, "5"), rules, false)
		}
	}
}

// Blind by Values: at most 40 bytes, whatever they are, none and - among them.
func TestBlindValues(t *testing.T) {
	for _, value := range []string{"", "5", "-", "--", "\x00", "\xff", strings.Repeat("é", 20), strings.Repeat("v", 39), strings.Repeat("v", 40), strings.Repeat("\xff", 40)} {
		askBlindness(t, fullAct("svc/h", value), blindRules, true)
		askBlindness(t, fullAct("svc/r", value), blindRules, false)
	}
	for _, value := range []string{strings.Repeat("v", 41), strings.Repeat("-", 41), strings.Repeat("v", 42), strings.Repeat("é", 21), strings.Repeat("v", 296), strings.Repeat("v", 1<<16)} {
		askBlindness(t, fullAct("svc/h", value), blindRules, false)
		askBlindness(t, fullAct("svc/r", value), blindRules, false)
	}
	for _, value := range []string{"", "5", "-", strings.Repeat("v", 40), strings.Repeat("v", 41)} {
		a := fullAct("svc/h", value)
		a.Gone = true
		askBlindness(t, a, blindRules, false)
	}
}

// Blind by who does what: AcWrite by root alone.
func TestBlindKindsAndTokens(t *testing.T) {
	for _, kind := range append([]int64{1, 2, 3, 4, 5}, noActKinds...) {
		a := fullAct("svc/h", "5")
		a.Kind = kind
		askBlindness(t, a, blindRules, kind == 1)
	}
	for _, token := range append([]string{"ann", "bob", "Root", "root ", " root", "rot", "roots", "ROOT", "roo", "\x00", "root\x00", "-"}, noTokens...) {
		a := fullAct("svc/h", "5")
		a.Token, a.Query.Token = token, "root"
		askBlindness(t, a, blindRules, false)
		a.Token, a.Query.Token = "root", token
		askBlindness(t, a, blindRules, true)
	}
	for _, at := range append(slices.Clone(farPlaces), 0, 1, 3) {
		a := fullAct("svc/h", "5")
		a.Node, a.To = at, -at
		askBlindness(t, a, blindRules, true)
	}
}

// Blind of lists: the number and the order stay; 200 are taken, and of 201 none.
func TestBlindOfHowMany(t *testing.T) {
	list := []impl.Act{}
	for i := range 300 {
		key := []string{"svc/h", "svc/r", "acl/ann"}[i%3]
		a := fullAct(key, fmt.Sprint(i))
		a.Node = int64(i)
		list = append(list, a)
	}
	for _, rules := range [][]impl.Rule{blindRules, nil} {
		for _, many := range []int{0, 1, 2, 3, 100, 199, 200} {
			got := askBlind(t, list[:many], "ann", rules)
			if len(got) != many {
				t.Fatalf("of %d come %d", many, len(got))
			}
			for i, a := range got {
				if a.Node != int64(i) || i%3 == 0 && a.Value != "-" {
					t.Fatalf("%d: %v", i, a)
				}
			}
		}
		for _, many := range []int{201, 202, 256, 300} {
			if got := askBlind(t, list[:many], "ann", rules); len(got) != 0 {
				t.Errorf("of %d come %d", many, len(got))
			}
		}
		if got := impl.Blind(nil, "ann", rules); len(got) != 0 {
			t.Errorf("of none: %v", got)
		}
	}
	same := slices.Repeat([]impl.Act{fullAct("svc/h", "5")}, 200)
	for i, a := range impl.Blind(same, "ann", blindRules) {
		if a != fullAct("svc/h", "-") {
			t.Fatalf("%d: %v", i, a)
		}
	}
}

// Blind by Rules that are not right: nothing, of whatever Acts.
func TestBlindByNoRules(t *testing.T) {
	lists := [][]impl.Act{nil, {tickAct}, {fullAct("svc/h", "5")}, {fullAct("a", "5"), askOf(0, ask("a.zone"))}, slices.Repeat([]impl.Act{tickAct}, 200), slices.Repeat([]impl.Act{tickAct}, 201)}
	for what, rules := range noRules() {
		for _, list := range lists {
			if got := impl.Blind(list, "ann", rules); len(got) != 0 {
				t.Fatalf("%s: of %d come %v", what, len(list), got)
			}
		}
	}
	for _, rules := range someRules() {
		for _, list := range lists {
			askBlind(t, list, "ann", rules)
		}
	}
}

// Blind of Keys by all kinds of Rules: just what May says.
func TestBlindIsMay(t *testing.T) {
	draw := drawFrom(193)
	counts := map[string]int{}
	for _, rules := range append(someRules(), allDrawnRules()...) {
		list := []impl.Act{}
		for _, key := range keysFor(draw, rules) {
			list = append(list, fullAct(key, "5"), fullAct("svc/"+key, "5"))
		}
		for _, text := range []string{"svc/a", "svc/b", "svc/x", "svc/a.b-1.zone"} {
			list = append(list, fullAct(text, "5"))
		}
		list = firstOf(list, 200)
		for i, a := range askBlind(t, list, "ann", rules) {
			may := impl.May(rules, list[i].Key, false)
			if service := strings.HasPrefix(a.Key, "svc/") && a.Key != "svc/"; (a.Value == "-") != (service && !may) {
				t.Fatalf("by %v: %v", rules, a)
			}
			counts[fmt.Sprint(a.Value, " ", may)]++
		}
	}
	askCounts(t, counts, 100, "- false", "5 false", "5 true")
}

// Blind of drawn Acts of all kinds: each thing that keeps one as it is comes often.
func TestBlindOfDrawnActs(t *testing.T) {
	t.Parallel()
	p := newPalette(194)
	counts := map[string]int{}
	for i, c := range drawnClusters(195, 100) {
		list := []impl.Act{}
		for range 200 {
			a := p.act(c)
			if p.draw(2) == 0 {
				a.Kind, a.Token = impl.AcWrite, "root"
			}
			if p.draw(20) == 0 {
				a.Key = "svc/"
			}
			list = append(list, a)
		}
		rules, _ := readByWords(p.texts[i%len(p.texts)])
		askBlind(t, list, "ann", rules)
		for _, a := range list {
			counts[stays(a, rules)]++
		}
	}
	askCounts(t, counts, 20, "", "another Kind", "by another Token", "another Key", "nothing behind svc/", "it may be read", "Gone", "too long")
}

// The token does not matter to what Blind answers, and what is Blind stays so.
func TestBlindWhateverTheToken(t *testing.T) {
	s := newAuditScripts(196, 3)
	for _, text := range auditTexts {
		rules, _ := readByWords(text)
		list := s.script(150)
		want := askBlind(t, list, "ann", rules)
		for _, token := range slices.Concat(viewTokens, noTokens, []string{"root", "\x00", strings.Repeat("x", 1<<16)}) {
			if got := impl.Blind(list, token, rules); !slices.Equal(got, want) {
				t.Fatalf("%.50q: %v, not %v", token, got, want)
			}
		}
		if again := impl.Blind(want, "ann", rules); !slices.Equal(again, want) {
			t.Fatalf("once more: %v, not %v", again, want)
		}
	}
}

// Asked counts AcAsk by the Token of the Query, whoever the Act names, at whatever Node, whatever is asked.
func TestAskedByToken(t *testing.T) {
	by := func(token string) impl.Act { return askOf(0, impl.Query{Token: token}) }
	far := askOf(-9, impl.Query{Source: 1000, Token: "ann", Name: ".", Type: -1, Size: -1})
	far.Token, far.Key, far.Value, far.Gone = "bob", "svc/a", "5", true
	list := []impl.Act{by("ann"), by("bob"), by(""), by("ann"), far, by("an"), by("anna"), by("Ann"), by("ann "), by("root"), {Kind: impl.AcAsk}, tickAct}
	for token, want := range map[string]int64{"ann": 3, "bob": 1, "": 2, "an": 1, "anna": 1, "Ann": 1, "ann ": 1, "root": 1, "cid": 0, "a": 0, " ann": 0, "BOB": 0, "\x00": 0} {
		if got := impl.Asked(list, token); got != want {
			t.Errorf("%q: %d, not %d", token, got, want)
		}
	}
	for _, kind := range append([]int64{1, 2, 3, 5}, noActKinds...) {
		a := by("ann")
		a.Kind, a.Token = kind, "ann"
		if got := impl.Asked([]impl.Act{a, a, by("ann"), a}, "ann"); got != 1 {
			t.Errorf("Kind %d: %d", kind, got)
		}
	}
}

// Asked has no limit: lists that cannot be played are counted, too.
func TestAskedOfHowMany(t *testing.T) {
	for _, token := range []string{"ann", "", "root", "nobody else"} {
		a := askOf(0, impl.Query{Token: token})
		for _, many := range []int{0, 1, 2, 100, 199, 200, 201, 202, 256, 300, 100000} {
			list := slices.Repeat([]impl.Act{a}, many)
			if got := impl.Asked(list, token); got != int64(many) {
				t.Errorf("%d of %d by %q", got, many, token)
			}
			if got := impl.Asked(list, token+"x"); got != 0 {
				t.Errorf("%d of %d by another", got, many)
			}
			if got := impl.Asked(append(list, tickAct, a, write(0, token, "svc/a", "")), token); got != int64(many+1) {
				t.Errorf("%d of %d and one by %q", got, many, token)
			}
		}
	}
	if got := impl.Asked(nil, "ann"); got != 0 {
		t.Errorf("%d of none", got)
	}
}

// Asked of drawn scripts: by each Token as many as there are Answers to it, where all Nodes are there.
func TestAskedOfDrawnScripts(t *testing.T) {
	for run := range 40 {
		s := newAuditScripts(uint32(1970+run), 4)
		list := s.script(5 * run)
		for i := range list {
			list[i].Node = max(0, min(list[i].Node, 3))
		}
		answers := answersTo(t, mustCluster(t, "zone", 4), list)
		all := int64(0)
		for _, token := range append([]string{"", "an", "Root"}, auditTokens...) {
			got := impl.Asked(list, token)
			if got != askedByWords(list, token) || got != int64(len(answers[token])) {
				t.Fatalf("%q: %d of %v", token, got, list)
			}
			all += got
		}
		if _, told := impl.Play(mustCluster(t, "zone", 4), list); all != int64(len(told)) {
			t.Errorf("%d were asked, %d answered", all, len(told))
		}
	}
}

// brokenLogs are of one log with at least 3 Lines, wrong in one thing each, at its first, a middle and its last Line.
func brokenLogs(log []impl.Line) map[string][]impl.Line {
	broken := map[string][]impl.Line{"a Line behind": append(slices.Clone(log), log[len(log)-1])}
	for _, at := range []int{0, len(log) / 2, len(log) - 1} {
		line, other := log[at], log[(at+1)%len(log)]
		put := func(what string, list []impl.Line) { broken[fmt.Sprintf("%s, at %d of %d", what, at, len(log))] = list }
		put("another Text", withLine(log, at, impl.Line{Text: line.Text + "0", Sum: line.Sum}))
		put("another byte", withLine(log, at, impl.Line{Text: "x" + line.Text[1:], Sum: line.Sum}))
		put("no Text", withLine(log, at, impl.Line{Sum: line.Sum}))
		put("another Sum", withLine(log, at, impl.Line{Text: line.Text, Sum: line.Sum + 1}))
		put("no Sum", withLine(log, at, impl.Line{Text: line.Text}))
		put("the Sum of another", withLine(log, at, impl.Line{Text: line.Text, Sum: other.Sum}))
		put("two changed about", withLine(withLine(log, at, other), (at+1)%len(log), line))
		put("a Line twice", slices.Insert(slices.Clone(log), at, line))
		put("the zero Line", withLine(log, at, impl.Line{}))
		if at < len(log)-1 {
			put("a Line left out", slices.Delete(slices.Clone(log), at, at+1))
		}
	}
	return broken
}

func askComplete(t *testing.T, what string, c impl.Cluster, want bool) {
	t.Helper()
	if got, words := impl.Complete(c), completeByWords(c); got != want || words != want {
		t.Errorf("%s: Complete is %v, by words %v: %.900s", what, got, words, showCluster(c))
	}
}

// Complete: all Logs are logs, of none, one, and as many Lines as any; one that is none is enough, at whichever Node.
func TestCompleteByLogs(t *testing.T) {
	t.Parallel()
	for n := 1; n <= 4; n++ {
		askComplete(t, "new", mustCluster(t, "zone", int64(n)), true)
		askComplete(t, "plain", plainCluster(n), true)
		for at := range n {
			for i, log := range someLogs() {
				c := plainCluster(n)
				c.Nodes[at].Log = log
				askComplete(t, fmt.Sprintf("log %d at %d of %d", i, at, n), c, true)
			}
			for _, log := range [][]impl.Line{fullLog(3), fullLog(7), fullLog(299), fullLog(300)} {
				for what, broken := range brokenLogs(log) {
					c := plainCluster(n)
					c.Nodes[at].Log = broken
					askComplete(t, fmt.Sprintf("%s, Node %d of %d", what, at, n), c, false)
				}
				c := plainCluster(n)
				c.Nodes[at].Log = log[:len(log)-1]
				askComplete(t, "without its last Line", c, true)
			}
			for what, log := range noLogs() {
				c := plainCluster(n)
				c.Nodes[at].Log = log
				if impl.Complete(c) {
					t.Errorf("%s, Node %d of %d: Complete", what, at, n)
				}
			}
		}
	}
}

// Complete: what is not ClusterOk is not, be its Logs logs or not.
func TestCompleteOfNoCluster(t *testing.T) {
	t.Parallel()
	all := noClusters()
	maps.Copy(all, clustersOfNoNode())
	for what, c := range all {
		if impl.Complete(c) {
			t.Fatalf("%.100s: Complete", what)
		}
	}
	askComplete(t, "the zero Cluster", impl.Cluster{}, false)
	for n := 1; n <= 4; n++ {
		c := mustCluster(t, "zone", int64(n))
		c.Now = -1
		askComplete(t, "Now below 0", c, false)
		c.Now, c.Clock = 0, append(c.Clock, 0)
		askComplete(t, "a Clock too many", c, false)
	}
	for _, c := range drawnClusters(198, 200) {
		askComplete(t, "drawn", c, true)
	}
}

// Promise 19 has something to look over: behind any script the Log of each Node is a log, with a Line for each of its Answers but QuStill, while it has room.
func TestCompleteBehindScripts(t *testing.T) {
	t.Parallel()
	full, still := 0, 0
	for run := range 8 {
		nodes := int64(1 + run%4)
		s, p := newAuditScripts(uint32(1990+run), nodes), newPalette(uint32(1990+run))
		c := mustCluster(t, "zone", nodes)
		texts := make([][]string, nodes)
		for part := range 6 * int(nodes) {
			list := p.script(c, 50, 1)
			for len(list) < 200 {
				a := s.asking()
				a.Query.Source = int64(s.draw(20))
				list = append(list, a, tickAct)
			}
			c = answered(t, c, list, func(a impl.Act, answer impl.Answer) {
				if answer.Code == impl.QuStill {
					still++
				} else {
					texts[a.Node] = append(texts[a.Node], fmt.Sprintf("%d %d %d", a.Query.Source, a.Query.Type, answer.Code))
				}
			})
			askComplete(t, fmt.Sprint("part ", part), c, true)
			for i, n := range c.Nodes {
				if !slices.Equal(n.Log, linesOf(firstOf(texts[i], 300)...)) {
					t.Fatalf("part %d, Node %d: %v, not %v", part, i, n.Log, texts[i])
				}
			}
		}
		for _, of := range texts {
			if len(of) > 300 {
				full++
			}
		}
	}
	if full < 8 || still < 50 {
		t.Errorf("%d Logs are full, %d were QuStill", full, still)
	}
}

// Promise 4 in a Cluster: with one byte of one Text changed it is not Complete any more.
func TestCompleteOneByte(t *testing.T) {
	s := newAuditScripts(199, 4)
	c, _ := impl.Play(mustCluster(t, "zone", 4), s.script(200))
	asked := 0
	for at, n := range c.Nodes {
		for i, line := range n.Log {
			for place := range len(line.Text) {
				for _, b := range []byte{line.Text[place] ^ 1, line.Text[place] + 1, 0, 0xff} {
					if b == line.Text[place] {
						continue
					}
					other := cloneCluster(c)
					other.Nodes[at].Log[i].Text = line.Text[:place] + string([]byte{b}) + line.Text[place+1:]
					if impl.Complete(other) {
						t.Fatalf("Node %d, Line %d: %q", at, i, other.Nodes[at].Log[i].Text)
					}
					asked++
				}
			}
		}
	}
	if asked < 500 || !impl.Complete(c) {
		t.Errorf("only %d", asked)
	}
}

// Of any numbers and texts all three answer as the chapter says.
func TestAuditsOfAnything(t *testing.T) {
	t.Parallel()
	draw := drawFrom(197)
	numbers := []int64{math.MinInt64, -1, 0, 1, 1, 1, 2, 3, 4, 4, 5, 6, 1 << 32, math.MaxInt64}
	number := func() int64 { return numbers[draw(len(numbers))] }
	texts := []string{"", "svc", "svc/", "svc/a", "svc/b", "svc/\xff", "acl/ann", "root", "root", "root", "ann", "-", "r-", "\x00", "svc/" + strings.Repeat("a", 40), strings.Repeat("v", 40), strings.Repeat("v", 41)}
	text := func() string { return texts[draw(len(texts))] }
	counts := map[string]int{}
	for range 3000 {
		list := []impl.Act{}
		for range draw(12) {
			list = append(list, impl.Act{Kind: number(), Node: number(), To: number(), Token: text(), Key: text(), Value: text(), Gone: draw(4) == 0, Query: impl.Query{Source: number(), Token: text(), Name: text(), Type: number(), Size: number()}})
		}
		if draw(10) == 0 {
			list = slices.Repeat(list, 20)
		}
		rules := []impl.Rule{}
		for range draw(4) {
			rules = append(rules, impl.Rule{Prefix: text(), Read: draw(2) == 0, Write: draw(2) == 0})
		}
		if draw(3) > 0 {
			slices.SortFunc(rules, func(a, b impl.Rule) int { return strings.Compare(a.Prefix, b.Prefix) })
		}
		token := text()
		got := askBlind(t, list, token, rules)
		counts[fmt.Sprint("changed ", !slices.Equal(got, list))]++
		counts[fmt.Sprint("right ", rulesByWords(rules))]++
		if asked := impl.Asked(list, token); asked != askedByWords(list, token) {
			t.Fatalf("Asked(%v, %q) is %d", list, token, asked)
		}
		c := impl.Cluster{Now: number(), Clock: []int64{number()}, Nodes: []impl.Node{{Roll: rollOf(number(), 7, 8, 0, number()), Apex: text(), Log: []impl.Line{{Text: text(), Sum: number()}}}}}
		if impl.Complete(c) || completeByWords(c) {
			t.Fatalf("Complete: %s", showCluster(c))
		}
	}
	askCounts(t, counts, 200, "changed true", "changed false", "right true", "right false")
}

// No panic comes out, whatever they are given.
func TestAuditsOfFarTooMuch(t *testing.T) {
	long := strings.Repeat("svc/", 1<<20)
	a := impl.Act{Kind: impl.AcWrite, Token: "root", Key: long, Value: "5", Query: impl.Query{Token: long}}
	if got := impl.Blind([]impl.Act{a}, long, blindRules); len(got) != 1 || got[0].Value != "-" || got[0].Key != long {
		t.Error("a long Key")
	}
	if got := impl.Blind([]impl.Act{a}, long, []impl.Rule{{Prefix: long}}); len(got) != 0 {
		t.Error("a long Prefix")
	}
	if got := impl.Blind(make([]impl.Act, 1<<17), long, make([]impl.Rule, 1<<17)); len(got) != 0 {
		t.Error("many")
	}
	a.Kind = impl.AcAsk
	if got := impl.Asked(slices.Repeat([]impl.Act{a, {}}, 1<<17), long); got != 1<<17 {
		t.Error(got)
	}
	many := impl.Node{Replica: replica(make([]impl.Entry, 10000), make([]impl.Member, 10000)), Buckets: make([]impl.Bucket, 10000), Log: make([]impl.Line, 10000), Apex: long}
	for _, c := range []impl.Cluster{{}, {Nodes: []impl.Node{many}, Clock: []int64{0}}, {Nodes: make([]impl.Node, 10000), Clock: make([]int64, 10000)}, {Nodes: make([]impl.Node, 3)}, {Clock: make([]int64, 3)}, {Now: math.MinInt64}} {
		if impl.Complete(c) {
			t.Error("Complete")
		}
	}
}

// An auditCase is all that the three functions are given.
type auditCase struct {
	list    []impl.Act
	token   string
	rules   []impl.Rule
	cluster impl.Cluster
}

// auditCases are right and wrong ones, of few and of many Acts.
func auditCases() []auditCase {
	s := newAuditScripts(191, 2)
	lists := [][]impl.Act{nil, {}, {tickAct}, {fullAct("svc/h", "5")}, s.script(4), s.script(60), s.script(200), s.script(201)}
	rules := append(ruleArguments()[:20], blindRules, manyRules(13), []impl.Rule{rule("r-", "b"), rule("r-", "a")})
	for i := range len(auditTexts) {
		list, _ := readByWords(auditTexts[i])
		rules = append(rules, list)
	}
	clusters := clusterArguments()
	cases := []auditCase{}
	for i, list := range rules {
		for at := range 3 {
			cases = append(cases, auditCase{lists[(i+3*at)%len(lists)], auditTokens[i%len(auditTokens)], list, clusters[(3*i+at)%len(clusters)]})
		}
	}
	return cases
}

// auditAnswer is all that is answered of one case.
type auditAnswer struct {
	blind []impl.Act
	told  string
}

func (one auditCase) answers() auditAnswer {
	return auditAnswer{impl.Blind(one.list, one.token, one.rules), fmt.Sprint(impl.Asked(one.list, one.token), impl.Complete(one.cluster))}
}

func (one auditCase) byWords() auditAnswer {
	return auditAnswer{blindByWords(one.list, one.rules), fmt.Sprint(askedByWords(one.list, one.token), completeByWords(one.cluster))}
}

func (a auditAnswer) same(b auditAnswer) bool {
	return slices.Equal(a.blind, b.blind) && a.told == b.told
}

// Promise 21 of chapter 19: nothing is written into Acts, Rules and Clusters, down to the lists of each Node, or into the room behind them, and no answer lies there.
func TestPromise21AuditArgumentsStay(t *testing.T) {
	t.Parallel()
	for i, one := range auditCases() {
		want := one.byWords()
		for way, l := range clusterLayouts(one.cluster) {
			for _, room := range []int{0, 1, 250} {
				list, acts := roomyOf(one.list, room, scribbledAct)
				rules, all := roomyOf(one.rules, room, scribbledRule)
				wantActs, wantRules, same := slices.Clone(acts), slices.Clone(all), l.watched()
				got := auditCase{list, one.token, rules, l.cluster}.answers()
				if !same() || !slices.Equal(acts, wantActs) || !slices.Equal(all, wantRules) {
					t.Fatalf("case %d, layout %d: something was written", i, way)
				}
				if !got.same(want) {
					t.Fatalf("case %d, layout %d: %v, not %v", i, way, got, want)
				}
				scribbleOn(got.blind, scribbledAct)
				if !same() || !slices.Equal(acts, wantActs) || !slices.Equal(all, wantRules) {
					t.Fatalf("case %d, layout %d: an answer shares memory", i, way)
				}
			}
		}
	}
}

// Promise 21: Acts and Rules that are written to later change no answer.
func TestPromise21AuditAnswersStay(t *testing.T) {
	for i, one := range auditCases() {
		want := one.byWords()
		given := auditCase{slices.Clone(one.list), one.token, slices.Clone(one.rules), cloneCluster(one.cluster)}
		got := given.answers()
		scribbleOn(given.list, scribbledAct)
		scribbleOn(given.rules, scribbledRule)
		if !got.same(want) {
			t.Fatalf("case %d: %v, not %v", i, got, want)
		}
	}
}

// Promise 21: no two answers share any, be they to the same, or one out of the other, also where there is nothing to be Blind.
func TestPromise21AuditAnswersAreApart(t *testing.T) {
	blind := 0
	for i, one := range auditCases() {
		want := one.byWords()
		first, second := one.answers(), one.answers()
		again := auditCase{first.blind, one.token, one.rules, one.cluster}.answers()
		wantAgain := slices.Clone(again.blind)
		scribbleOn(first.blind, scribbledAct)
		if !second.same(want) || !slices.Equal(again.blind, wantAgain) || !one.answers().same(want) {
			t.Fatalf("case %d: two answers share memory", i)
		}
		scribbleOn(again.blind, scribbledAct)
		left, right := append(second.blind, tickAct), append(one.answers().blind, stepOf(1))
		if left[len(left)-1] != tickAct || right[len(right)-1] != stepOf(1) || !slices.Equal(left[:len(left)-1], want.blind) || !slices.Equal(right[:len(right)-1], want.blind) {
			t.Fatalf("case %d: two ways on write over each other", i)
		}
		if len(want.blind) > 0 {
			blind++
		}
	}
	if blind < 30 {
		t.Errorf("only %d have Acts", blind)
	}
}

// Promise 21: the same arguments get the same answers again, whatever was asked in between.
func TestPromise21AuditAgain(t *testing.T) {
	cases := auditCases()
	first := []auditAnswer{}
	for _, one := range cases {
		first = append(first, one.answers())
	}
	for i, one := range slices.Backward(cases) {
		for range 3 {
			if got := one.answers(); !got.same(first[i]) || !got.same(one.byWords()) {
				t.Fatalf("case %d: %v, then %v", i, first[i], got)
			}
		}
	}
}

// Promise 21: the same is asked by many at the same time; .ci/run asks this under the race detector, too.
func TestAtTheSameTimeAudit(t *testing.T) {
	for i, one := range auditCases() {
		if i%4 > 0 {
			continue
		}
		want := one.byWords()
		given := auditCase{one.list, one.token, one.rules, layShared(one.cluster, 3).cluster}
		var all sync.WaitGroup
		for range 4 {
			all.Go(func() {
				got := given.answers()
				if !got.same(want) {
					t.Errorf("case %d: the answers are others at the same time", i)
				}
				scribbleOn(got.blind, scribbledAct)
			})
		}
		all.Wait()
	}
}
