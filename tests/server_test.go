package tests

import (
	"fmt"
	"maps"
	"math"
	"slices"
	"strings"
	"sync"
	"testing"

	"loop.example/g00307/impl"
)

// The constants have no kind of their own, so that they go with any number.
const (
	_ uint8   = impl.QuOk
	_ float64 = impl.QuNone
	_ int32   = impl.QuEmpty
	_ float64 = impl.QuBad
	_ uint16  = impl.QuNo
	_ float64 = impl.QuStill
)

// noCodes are none of the six, the nearest and the farthest.
var noCodes = []int64{math.MinInt64, math.MinInt64 + 1, -6, -5, -2, -1, 6, 7, 10, 256, 1 << 32, 1<<32 + 1, math.MaxInt64 - 1, math.MaxInt64}

var sixCodes = []int64{0, 1, 2, 3, 4, 5}

// noSizes are below 0, the nearest and the farthest.
var noSizes = []int64{math.MinInt64, math.MinInt64 + 1, -1 << 32, -500, -2, -1}

// logByWords chains the Texts anew and holds the whole log against that.
func logByWords(list []impl.Line) bool {
	long := slices.ContainsFunc(list, func(line impl.Line) bool { return len(line.Text) > 100 })
	return len(list) <= 300 && !long && slices.Equal(chainAnew(list), list)
}

func nodeByWords(n impl.Node) bool {
	known := bookByWords(n.Replica.Book) && membersByWords(n.Replica.Members)
	return known && rollByWords(n.Roll) && bucketsByWords(n.Buckets) && logByWords(n.Log) && n.Apex != "" && nameByPattern(n.Apex)
}

// answerTextByWords puts words together, where the program goes from one to the next.
func answerTextByWords(a impl.Answer) string {
	words := []string{}
	switch {
	case a.Code == 0 && recordsByPairs(a.Records):
		words = append(words, canonByPrint(a.Records))
	case a.Code == 0:
		words = append(words, "")
	case a.Code == 1 || a.Code == 2:
		words = append(words, a.Deny.Owner, a.Deny.Next)
		for _, kind := range a.Deny.Types {
			words = append(words, fmt.Sprint(kind))
		}
	}
	text := fmt.Sprint(a.Code) + " " + strings.Join(words, " ")
	if a.Code == 0 && a.Cut {
		return text + "Cut"
	}
	return text
}

// codesFor are all that apply but QuStill, each asked for itself; the last one always does.
func codesFor(n impl.Node, q impl.Query) []int64 {
	codes := []int64{}
	if !nameByPattern(q.Name) || !underByLabels(q.Name, n.Apex) || !slices.Contains([]int64{1, 2, 3, 4, 5}, q.Type) || q.Size < 0 {
		codes = append(codes, 3)
	}
	zone, ok := zoneForByWords(n.Replica.Book, q.Token, n.Apex)
	if !ok {
		codes = append(codes, 4)
	}
	owner := slices.ContainsFunc(zone.Records, func(r impl.Rr) bool { return r.Name == q.Name })
	switch {
	case len(setByKeys(zone.Records, q.Name, q.Type)) > 0:
		return append(codes, 0)
	case owner:
		return append(codes, 2)
	}
	return append(codes, 1)
}

func answerByWords(n impl.Node, q impl.Query) impl.Answer {
	a := impl.Answer{Code: codesFor(n, q)[0]}
	zone, _ := zoneForByWords(n.Replica.Book, q.Token, n.Apex)
	switch a.Code {
	case 0:
		a.Records = setByKeys(zone.Records, q.Name, q.Type)
		if int64(len(answerTextByWords(a))) > q.Size {
			a.Records, a.Cut = nil, true
		}
	case 1, 2:
		a.Deny, _ = denialByWords(deniesBySets(zone), n.Apex, q.Name, q.Type)
	}
	return a
}

func respondByWords(round signRound, n impl.Node, q impl.Query, now int64) (impl.Node, impl.Answer) {
	if !nodeByWords(n) || !timeByWords(now) {
		return impl.Node{}, impl.Answer{}
	}
	next := cloneNode(n)
	buckets, drawn := drawnByWords(n.Buckets, q.Source, now)
	if !drawn {
		return next, impl.Answer{Code: 5}
	}
	a := answerByWords(n, q)
	until := now + 100
	if until > 1000000 {
		until = 1000000
	}
	a.Seal = round.seal(signingByWords(n.Roll), answerTextByWords(a), until)
	next.Buckets = buckets
	if len(n.Log) < 300 {
		next.Log = chainAnew(append(next.Log, impl.Line{Text: fmt.Sprintf("%d %d %d", q.Source, q.Type, a.Code)}))
	}
	return next, a
}

func deedOfByWords(round signRound, n impl.Node, until int64) (impl.Deed, bool) {
	if !nodeByWords(n) || !timeByWords(until) {
		return impl.Deed{}, false
	}
	return round.deed(n.Apex, servedByWords(round, n.Roll), n.Roll.Main, until), true
}

func secureByWords(round signRound, ds int64, d impl.Deed, a impl.Answer, now int64) bool {
	return round.trusted(ds, d, a.Seal, answerTextByWords(a), now)
}

func cloneNode(n impl.Node) impl.Node {
	return impl.Node{Replica: cloneReplica(n.Replica), Roll: n.Roll, Buckets: slices.Clone(n.Buckets), Log: slices.Clone(n.Log), Apex: n.Apex}
}

func cloneAnswer(a impl.Answer) impl.Answer {
	return impl.Answer{Code: a.Code, Records: slices.Clone(a.Records), Deny: cloneDeny(a.Deny), Seal: a.Seal, Cut: a.Cut}
}

func sameNodes(a, b impl.Node) bool {
	return sameReplicas(a.Replica, b.Replica) && a.Roll == b.Roll && sameBuckets(a.Buckets, b.Buckets) && slices.Equal(a.Log, b.Log) && a.Apex == b.Apex
}

func sameAnswers(a, b impl.Answer) bool {
	return a.Code == b.Code && sameRrs(a.Records, b.Records) && sameDeny(a.Deny, b.Deny) && a.Seal == b.Seal && a.Cut == b.Cut
}

// showNode leaves the log out but for how many Lines it has.
func showNode(n impl.Node) string {
	return fmt.Sprintf("{%.600v %v %v %d Lines %q}", n.Replica, n.Roll, n.Buckets, len(n.Log), n.Apex)
}

// ask is a Query of TyA by ann, from Source 0, with room for any answer.
func ask(name string) impl.Query {
	return impl.Query{Token: "ann", Name: name, Type: impl.TyA, Size: 500}
}

// nodeOf has this book and an empty log; its Roll is that of NewNode.
func nodeOf(apex string, book ...impl.Entry) impl.Node {
	return impl.Node{Replica: impl.Replica{Book: bookOf(book...)}, Roll: rollOf(1, 7, 8, 0, 0), Apex: apex}
}

// plainNode is one of the zone, with a.zone, b.c.zone and d.zone, of which ann may read all, bob all but svc/b, and cid nothing.
func plainNode() impl.Node {
	return nodeOf("zone", acl("ann", "r- svc/"), acl("bob", "r- svc/ -- svc/b"), acl("cid", ""), svc("a", "1"), svc("b.c", "22"), svc("d", ""), goneEntry("svc/e", 5, 3))
}

// phaseRolls are one of each phase.
func phaseRolls() []impl.Roll {
	return []impl.Roll{rollOf(1, 7, 8, 0, 0), rollOf(2, 7, 8, 9, 100), rollOf(3, 7, 8, 9, 200)}
}

// fullLog has n Lines like those that are Noted.
func fullLog(n int) []impl.Line {
	texts := []string{}
	for i := range n {
		texts = append(texts, fmt.Sprintf("%d %d %d", i%100, 1+i%5, i%5))
	}
	return linesOf(texts...)
}

// drawnNodes are right, out of drawn books, Rolls, Buckets and logs.
func drawnNodes() []impl.Node {
	draw := drawFrom(17)
	members, rolls, buckets := someMembers(), rightRolls(), allDrawnBuckets()
	logs := [][]impl.Line{nil, linesOf("a"), fullLog(3), fullLog(298), fullLog(299), fullLog(300), linesOf(edgeTexts()...)}
	nodes := []impl.Node{}
	for i, book := range drawnViews() {
		nodes = append(nodes, impl.Node{
			Replica: replica(book, members[draw(len(members))]),
			Roll:    rolls[draw(len(rolls))],
			Buckets: buckets[draw(len(buckets))],
			Log:     logs[i%len(logs)],
			Apex:    apexes[draw(len(apexes))],
		})
	}
	return nodes
}

// drawnName is mostly one in or near the zone of this token, sometimes not Under the Apex or no name.
func drawnName(draw func(int) int, n impl.Node, token string) string {
	zone, ok := zoneForByWords(n.Replica.Book, token, n.Apex)
	switch {
	case draw(12) == 0:
		bad := noNames()
		return bad[draw(len(bad))]
	case draw(12) == 0:
		return []string{"", "zzz", "x" + n.Apex, n.Apex + ".a", "a", "zone"}[draw(6)]
	case ok && draw(3) > 0:
		return zone.Records[draw(len(zone.Records))].Name
	case ok:
		names := askedNames(zone)
		return names[draw(len(names))]
	}
	return []string{n.Apex, "a." + n.Apex, "b.a." + n.Apex}[draw(3)]
}

// drawnSize is wide mostly; else it is about as long as what is answered, or wrong.
func drawnSize(draw func(int) int, n impl.Node, q impl.Query) int64 {
	q.Size = 500
	just := int64(len(answerTextByWords(answerByWords(n, q))))
	sizes := []int64{500, 500, 500, math.MaxInt64, just - 1, just, just + 1, 0, 1, 5, int64(draw(40))}
	if draw(15) == 0 {
		return noSizes[draw(len(noSizes))]
	}
	return sizes[draw(len(sizes))]
}

func drawnQuery(draw func(int) int, n impl.Node) impl.Query {
	q := impl.Query{Source: int64(draw(100)), Token: viewTokens[draw(len(viewTokens))], Type: []int64{1, 2, 3, 3, 3, 4, 5}[draw(7)]}
	if sources := sourcesFor(n.Buckets); draw(2) == 0 {
		q.Source = sources[draw(len(sources))]
	}
	if draw(12) == 0 {
		q.Token = []string{"nobody", "", "Ann", strings.Repeat("a", 13)}[draw(4)]
	}
	if draw(15) == 0 {
		q.Type = noKinds()[draw(len(noKinds()))]
	}
	q.Name = drawnName(draw, n, q.Token)
	q.Size = drawnSize(draw, n, q)
	return q
}

// drawnNow is at or behind the Bucket of the Source mostly, else anywhere.
func drawnNow(draw func(int) int, n impl.Node, q impl.Query) int64 {
	if b, there := bucketOf(n.Buckets, q.Source); there && draw(4) > 0 {
		return b.At + int64(draw(7))
	}
	if draw(10) == 0 {
		return noTimes[draw(len(noTimes))]
	}
	nows := append([]int64{999898, 999899, 999900, 999901}, edgeTimes...)
	return nows[draw(len(nows))]
}

// A question is all that Respond is given.
type question struct {
	node  impl.Node
	query impl.Query
	now   int64
}

func drawnQuestions(each int) []question {
	draw := drawFrom(71)
	list := []question{}
	for _, n := range drawnNodes() {
		for range each {
			q := drawnQuery(draw, n)
			list = append(list, question{n, q, drawnNow(draw, n, q)})
		}
	}
	return list
}

// askRespond holds an answer against the second reading of the chapter.
func askRespond(t *testing.T, round signRound, n impl.Node, q impl.Query, now int64) (impl.Node, impl.Answer) {
	t.Helper()
	next, a := impl.Respond(n, q, now)
	wantNext, want := respondByWords(round, n, q, now)
	if !sameAnswers(a, want) {
		t.Fatalf("%s: Respond to %.200v at %d is %.500v, not %.500v", showNode(n), q, now, a, want)
	}
	if !sameNodes(next, wantNext) {
		t.Fatalf("%s: behind %.200v at %d it is %s, not %s", showNode(n), q, now, showNode(next), showNode(wantNext))
	}
	return next, a
}

// askTrue is promise 17 of one answer: it is true of the Zone, by what the chapters ahead answer.
func askTrue(t *testing.T, n impl.Node, q impl.Query, a impl.Answer) {
	t.Helper()
	zone, ok := impl.ZoneFor(n.Replica.Book, q.Token, n.Apex)
	found := impl.Found(zone, q.Name, q.Type)
	deny, denied := impl.Denial(zone, q.Name, q.Type)
	switch a.Code {
	case impl.QuOk:
		if !ok || len(found) == 0 || denied || !a.Cut && !sameRrs(a.Records, found) || a.Cut && len(a.Records) > 0 || !sameDeny(a.Deny, impl.Deny{}) {
			t.Fatalf("%v: %v, but Found is %v", q, a, found)
		}
	case impl.QuNone, impl.QuEmpty:
		proof := map[int64]int64{impl.QuNone: impl.PrName, impl.QuEmpty: impl.PrKind}[a.Code]
		if !ok || len(found) > 0 || !denied || !sameDeny(a.Deny, deny) || impl.Proves(a.Deny, n.Apex, q.Name, q.Type) != proof || len(a.Records) > 0 || a.Cut {
			t.Fatalf("%v: %v, but the Denial is %v", q, a, deny)
		}
	default:
		if len(a.Records) > 0 || a.Cut || !sameDeny(a.Deny, impl.Deny{}) || a.Code == impl.QuNo && ok {
			t.Fatalf("%v: %v", q, a)
		}
	}
}

// askBehind is promise 17 of a Node: it stays right, and just its Bucket and its Log are others.
func askBehind(t *testing.T, n, next impl.Node, q impl.Query, now, code int64) {
	t.Helper()
	if !impl.NodeOk(next) {
		t.Fatalf("behind %v at %d it is no Node: %s", q, now, showNode(next))
	}
	want := cloneNode(n)
	buckets, drawn := impl.Drawn(n.Buckets, q.Source, now)
	if drawn != (code != impl.QuStill) {
		t.Fatalf("%v at %d: %d, but Drawn says %v", q, now, code, drawn)
	}
	if drawn {
		want.Buckets = buckets
		want.Log, _ = impl.Noted(n.Log, fmt.Sprint(q.Source, q.Type, code))
	}
	if !sameNodes(next, want) {
		t.Fatalf("behind %v at %d it is %s, not %s", q, now, showNode(next), showNode(want))
	}
}

// askSecure is promise 17 of a Seal: by the Deed of the Node the answer is Secure as long as its Seal Holds, and with another Code just where a Sig of that would be the same.
func askSecure(t *testing.T, round signRound, n impl.Node, a impl.Answer, now int64, counts map[string]int) {
	t.Helper()
	d, ok := impl.DeedOf(n, impl.MaxTime)
	ds := impl.DsOf(d)
	until := min(now+impl.MaxTtl, impl.MaxTime)
	if !ok || a.Seal.Until != until || a.Seal.Key != round.timesBase(impl.Signing(n.Roll)) {
		t.Fatalf("at %d: the Seal is %v", now, a.Seal)
	}
	for _, at := range []int64{now, until - 1, until, until + 1} {
		if got := impl.Secure(ds, d, a, at); got != (at < until) {
			t.Fatalf("%v, given at %d: Secure at %d is %v", a, now, at, got)
		}
	}
	if now == until {
		counts["over at once"]++
		return
	}
	for _, code := range append(sixCodes, -1, 6) {
		if code == a.Code {
			continue
		}
		other := cloneAnswer(a)
		other.Code = code
		secure := impl.Secure(ds, d, other, now)
		if secure != secureByWords(round, ds, d, other, now) {
			t.Fatalf("%v with Code %d: Secure is %v", a, code, secure)
		}
		counts[fmt.Sprint("other Code ", secure)]++
	}
}

func TestNodeKnown(t *testing.T) {
	if codes := []int64{impl.QuOk, impl.QuNone, impl.QuEmpty, impl.QuBad, impl.QuNo, impl.QuStill}; !slices.Equal(codes, sixCodes) {
		t.Error(codes)
	}
	n, ok := impl.NewNode("zone", 7, 8)
	if !ok || !sameNodes(n, impl.Node{Roll: rollOf(1, 7, 8, 0, 0), Apex: "zone"}) || !impl.NodeOk(n) {
		t.Fatalf("NewNode is %s, %v", showNode(n), ok)
	}
	n.Replica.Book = []impl.Entry{entry("acl/ann", "r- svc/", 1, 0), entry("svc/a", "1", 1, 0), entry("svc/b", "2", 1, 0)}
	next, a := impl.Respond(n, ask("b.zone"), 4)
	if a.Code != impl.QuOk || !sameRrs(a.Records, []impl.Rr{rr("b.zone", 3, 5, "2")}) || a.Cut || a.Seal != mustSeal(t, 8, "0 b.zone 3 5 1 2\n", 104) {
		t.Errorf("QuOk: %v", a)
	}
	if !sameBuckets(next.Buckets, []impl.Bucket{bucket(0, 4, 4)}) || !slices.Equal(next.Log, linesOf("0 3 0")) {
		t.Errorf("behind it: %s", showNode(next))
	}
	q := ask("c.zone")
	q.Source = 12
	next, a = impl.Respond(next, q, 5)
	if a.Code != impl.QuNone || !sameDeny(a.Deny, deny("b.zone", "zone", 3)) || a.Seal != mustSeal(t, 8, "1 b.zone zone 3", 105) {
		t.Errorf("QuNone: %v", a)
	}
	q.Name, q.Type = "zone", impl.TyKey
	next, a = impl.Respond(next, q, 5)
	if a.Code != impl.QuEmpty || !sameDeny(a.Deny, deny("zone", "a.zone", 1, 2)) || a.Seal != mustSeal(t, 8, "2 zone a.zone 1 2", 105) {
		t.Errorf("QuEmpty: %v", a)
	}
	if !sameBuckets(next.Buckets, []impl.Bucket{bucket(0, 4, 4), bucket(12, 3, 5)}) || !slices.Equal(next.Log, linesOf("0 3 0", "12 3 1", "12 5 2")) {
		t.Errorf("behind it: %s", showNode(next))
	}
	q.Token = "bob"
	if _, a = impl.Respond(next, q, 5); !sameAnswers(a, impl.Answer{Code: impl.QuNo, Seal: mustSeal(t, 8, "4 ", 105)}) {
		t.Errorf("QuNo: %v", a)
	}
	q.Name = "other"
	if _, a = impl.Respond(next, q, 5); !sameAnswers(a, impl.Answer{Code: impl.QuBad, Seal: mustSeal(t, 8, "3 ", 105)}) {
		t.Errorf("QuBad: %v", a)
	}
	q.Source = 100
	if again, a := impl.Respond(next, q, 5); !sameAnswers(a, impl.Answer{Code: impl.QuStill}) || !sameNodes(again, next) {
		t.Errorf("QuStill: %v", a)
	}
}

// Promise 17: of drawn Nodes, Queries and times all is as the chapter says.
func TestPromise17AsTheChapterSays(t *testing.T) {
	t.Parallel()
	round := newSignRound(t)
	counts := map[string]int{}
	for _, one := range drawnQuestions(12) {
		if !impl.NodeOk(one.node) {
			t.Fatalf("%s is no Node", showNode(one.node))
		}
		next, a := askRespond(t, round, one.node, one.query, one.now)
		switch {
		case !timeByWords(one.now):
			counts["no time"]++
		case a.Cut:
			counts["Cut"]++
		default:
			counts[fmt.Sprint(a.Code)]++
		}
		if len(one.node.Log) == 300 && next.Apex != "" {
			counts["full"]++
		}
	}
	for _, what := range []string{"0", "1", "2", "3", "4", "5", "Cut", "no time", "full"} {
		if counts[what] < 50 {
			t.Errorf("too few: %v", counts)
		}
	}
}

// Promise 17: a Node stays right; what it answers is Secure, and true of the Zone.
func TestPromise17OfDrawnNodes(t *testing.T) {
	t.Parallel()
	round := newSignRound(t)
	counts := map[string]int{}
	for _, one := range drawnQuestions(8) {
		if !timeByWords(one.now) {
			continue
		}
		next, a := impl.Respond(one.node, one.query, one.now)
		askBehind(t, one.node, next, one.query, one.now, a.Code)
		counts[fmt.Sprint(a.Code)]++
		if a.Code == impl.QuStill {
			if !sameNodes(next, one.node) || !sameAnswers(a, impl.Answer{Code: 5}) {
				t.Fatalf("QuStill: %v, %s", a, showNode(next))
			}
			continue
		}
		askTrue(t, one.node, one.query, a)
		askSecure(t, round, one.node, a, one.now, counts)
	}
	for _, what := range []string{"0", "1", "2", "3", "4", "5", "over at once", "other Code false"} {
		if counts[what] < 30 {
			t.Errorf("too few: %v", counts)
		}
	}
	if counts["other Code true"]*100 > counts["other Code false"] {
		t.Errorf("too many are Secure with another Code: %v", counts)
	}
}

// Promise 17: over many Queries, one behind the other, while the Roll goes through its phases, a Node stays right, and what it answers is Secure.
func TestPromise17Walks(t *testing.T) {
	t.Parallel()
	round := newSignRound(t)
	counts := map[string]int{}
	for walk := range 6 {
		draw := drawFrom(uint32(170 + walk))
		n := plainNode()
		n.Log = fullLog(40 * walk)
		now := []int64{0, 500, 999300}[walk%3]
		for range 330 {
			if draw(12) == 0 {
				now = min(now+int64(draw(80)), impl.MaxTime)
			}
			n.Roll, _ = impl.Step(n.Roll, now, int64(1+draw(2548)))
			q := drawnQuery(draw, n)
			q.Source = int64(draw(2))
			if draw(2) == 0 {
				q.Token = []string{"ann", "bob", "cid"}[draw(3)]
			}
			next, a := askRespond(t, round, n, q, now)
			askBehind(t, n, next, q, now, a.Code)
			counts[fmt.Sprint("Code ", a.Code)]++
			counts[fmt.Sprint("Phase ", n.Roll.Phase)]++
			if a.Code != impl.QuStill {
				askTrue(t, n, q, a)
				askSecure(t, round, n, a, now, counts)
			}
			n = next
		}
		counts[fmt.Sprint("Lines ", len(n.Log))]++
	}
	for _, what := range []string{"Code 0", "Code 1", "Code 2", "Code 3", "Code 4", "Code 5", "Phase 1", "Phase 2", "Phase 3"} {
		if counts[what] < 20 {
			t.Errorf("too few: %v", counts)
		}
	}
	if counts["Lines 300"] == 0 {
		t.Errorf("no log is full: %v", counts)
	}
}

// Promises 10 and 17: an answer that is at most MaxTtl old can be checked by keys of then and of now, whatever Steps were made.
func TestPromise17AcrossSteps(t *testing.T) {
	n := plainNode()
	type given struct {
		at     int64
		deed   impl.Deed
		answer impl.Answer
	}
	old := []given{}
	for now := int64(0); now <= 1200; now += 20 {
		n.Roll, _ = impl.Step(n.Roll, now, 10+now)
		var a impl.Answer
		n, a = impl.Respond(n, ask("a.zone"), now)
		d, ok := impl.DeedOf(n, impl.MaxTime)
		if a.Code != impl.QuOk || !ok {
			t.Fatalf("at %d: %v, %v", now, a, ok)
		}
		old = append(old, given{now, d, a})
		for _, one := range old {
			young := now-one.at < impl.MaxTtl
			if got := impl.Secure(impl.DsOf(d), d, one.answer, now); got != young {
				t.Fatalf("what was answered at %d is Secure at %d: %v", one.at, now, got)
			}
			if young && !impl.Secure(impl.DsOf(one.deed), one.deed, a, now) {
				t.Fatalf("by the Deed of %d what is answered at %d is not Secure", one.at, now)
			}
		}
	}
}

// Promises 16 and 17: what is not Seen changes no answer.
func TestPromise17WhatIsNotSeenChangesNoAnswer(t *testing.T) {
	draw := drawFrom(172)
	changed := 0
	for _, one := range drawnQuestions(4) {
		n, q := one.node, one.query
		other := cloneNode(n)
		other.Replica.Book = blinded(draw, n.Replica.Book, seenByWords(n.Replica.Book, q.Token), q.Token)
		if !sameBooks(other.Replica.Book, n.Replica.Book) {
			changed++
		}
		next, a := impl.Respond(n, q, one.now)
		otherNext, otherA := impl.Respond(other, q, one.now)
		if !sameAnswers(a, otherA) || !sameBuckets(next.Buckets, otherNext.Buckets) || !slices.Equal(next.Log, otherNext.Log) {
			t.Fatalf("%.200v: %v, and then %v", q, a, otherA)
		}
	}
	if changed < 500 {
		t.Errorf("only %d books were changed", changed)
	}
}

// stillCases are Buckets and Sources for which Drawn says false at 50.
func stillCases() map[string]question {
	n := plainNode()
	with := func(source int64, list ...impl.Bucket) question {
		n.Buckets = list
		return question{n, impl.Query{Source: source}, 50}
	}
	cases := map[string]question{
		"0 Left":            with(3, bucket(3, 0, 50)),
		"0 Left, not alone": with(3, bucket(2, 5, 50), bucket(3, 0, 50), bucket(4, 5, 50)),
		"above now":         with(3, bucket(3, 5, 51)),
		"far above now":     with(3, bucket(3, 5, impl.MaxTime)),
		"no room":           with(19, manyBuckets(20)...),
	}
	for _, source := range noSources {
		cases[fmt.Sprint("Source ", source)] = with(source)
	}
	return cases
}

// drawnCases are such for which it says true, at their edges.
func drawnCases() map[string]question {
	n := plainNode()
	with := func(source int64, list ...impl.Bucket) question {
		n.Buckets = list
		return question{n, impl.Query{Source: source}, 50}
	}
	return map[string]question{
		"none":          with(0),
		"the last one":  with(99, bucket(98, 0, 50)),
		"1 Left":        with(3, bucket(3, 1, 50)),
		"1 has come":    with(3, bucket(3, 0, 49)),
		"full":          with(3, bucket(3, 5, 0)),
		"the last room": with(99, manyBuckets(19)...),
		"20, it there":  with(2, manyBuckets(20)...),
		"of others":     with(3, bucket(2, 0, 50), bucket(4, 0, 51)),
	}
}

// badQueries are each wrong in one thing, or in more, for a Node of the zone.
func badQueries() map[string]func(*impl.Query) {
	bad := map[string]func(*impl.Query){
		"all three": func(q *impl.Query) { q.Name, q.Type, q.Size = "..", 6, -1 },
	}
	for i, name := range []string{"", "other", "zon", "one", "zonee", "xzone", "a.other", "zone.a", "a.zone.b", ".zone", "zone.", "a..zone", "A.zone", "*.zone", "a.b.c.d.e.f.zone", "aaaaaaaaaaaaa.zone"} {
		bad[fmt.Sprintf("Name %d %q", i, name)] = func(q *impl.Query) { q.Name = name }
	}
	for _, kind := range noKinds() {
		bad[fmt.Sprint("Type ", kind)] = func(q *impl.Query) { q.Type = kind }
	}
	for _, size := range noSizes {
		bad[fmt.Sprint("Size ", size)] = func(q *impl.Query) { q.Size = size }
	}
	return bad
}

// noTokens have no Rules in plainNode.
var noTokens = []string{"", "nobody", "an", "anna", "Ann", "svc", "ann ", strings.Repeat("a", 13)}

// otherQueries are answered by plainNode with these Codes.
func otherQueries() map[int64][]impl.Query {
	empty, gone := ask("a.zone"), ask("e.zone")
	empty.Type = impl.TyKey
	return map[int64][]impl.Query{
		impl.QuOk:    {ask("a.zone"), ask("b.c.zone"), ask("d.zone")},
		impl.QuNone:  {ask("b.zone"), ask("c.zone"), gone, ask("x.a.zone")},
		impl.QuEmpty: {empty, ask("zone")},
	}
}

// Each code against each named behind it, where both apply at once: the first one is told.
func TestOrderOfCodes(t *testing.T) {
	round := newSignRound(t)
	asked := map[int64]int{}
	respond := func(what string, one question, q impl.Query, want int64) {
		t.Helper()
		q.Source = one.query.Source
		if _, a := askRespond(t, round, one.node, q, one.now); a.Code != want {
			t.Fatalf("%s: %v is answered by %d, not %d", what, q, a.Code, want)
		}
		asked[want]++
	}
	all := func(cases map[string]question, still bool) {
		for _, what := range slices.Sorted(maps.Keys(cases)) {
			one := cases[what]
			code := func(want int64) int64 {
				if still {
					return impl.QuStill
				}
				return want
			}
			for want, queries := range otherQueries() {
				for _, q := range queries {
					respond(what, one, q, code(want))
					for _, token := range noTokens {
						q.Token = token
						respond(what, one, q, code(impl.QuNo))
					}
					for _, wrong := range badQueries() {
						for _, token := range []string{"ann", "nobody", ""} {
							bad := q
							bad.Token = token
							wrong(&bad)
							respond(what, one, bad, code(impl.QuBad))
						}
					}
				}
			}
		}
	}
	all(stillCases(), true)
	all(drawnCases(), false)
	for _, code := range sixCodes {
		if asked[code] < 10 {
			t.Errorf("too few: %v", asked)
		}
	}
}

// A Zone that would have 61 Records is QuNo, one of 60 is not; what is QuBad stays so.
func TestRespondOfTooManyRecords(t *testing.T) {
	round := newSignRound(t)
	for many, want := range map[int]int64{57: impl.QuOk, 58: impl.QuOk, 59: impl.QuNo, 60: impl.QuNo, 79: impl.QuNo} {
		n := nodeOf("zone", append(services(many), acl("ann", "r- svc/"))...)
		if _, a := askRespond(t, round, n, ask("n00.zone"), 3); a.Code != want {
			t.Errorf("of %d: %v", many, a)
		}
		if _, a := askRespond(t, round, n, ask("n00.other"), 3); a.Code != impl.QuBad {
			t.Errorf("of %d: %v", many, a)
		}
	}
}

// The token's Rules: none at all, Gone, such as can't be read, and such as let nothing.
func TestRespondByRules(t *testing.T) {
	round := newSignRound(t)
	node := func(e impl.Entry) impl.Node { return nodeOf("zone", e, svc("a", "1")) }
	for _, value := range unreadable() {
		if _, a := askRespond(t, round, node(acl("ann", value)), ask("a.zone"), 3); a.Code != impl.QuNo {
			t.Errorf("%q: %v", value, a)
		}
	}
	for _, e := range []impl.Entry{goneEntry("acl/ann", 5, 3), acl("bob", "r- "), acl("anna", "r- ")} {
		if _, a := askRespond(t, round, node(e), ask("a.zone"), 3); a.Code != impl.QuNo {
			t.Errorf("%v: %v", e, a)
		}
	}
	for value, want := range map[string]int64{"": impl.QuNone, "-- ": impl.QuNone, "-w ": impl.QuNone, "r- ": impl.QuOk, "r- svc/ -- svc/a": impl.QuNone, "-- svc/ r- svc/a": impl.QuOk, "r- svc/b": impl.QuNone, "rw svc/a": impl.QuOk} {
		_, a := askRespond(t, round, node(acl("ann", value)), ask("a.zone"), 3)
		if a.Code != want {
			t.Errorf("%q: %v", value, a)
		}
		if want == impl.QuNone && !sameDeny(a.Deny, deny("zone", "zone", 1, 2)) {
			t.Errorf("%q: the Deny tells more than is Seen: %v", value, a.Deny)
		}
	}
}

// Names: the Apex, Under it, between Owners, under nothing, and no names.
func TestRespondNames(t *testing.T) {
	round := newSignRound(t)
	for _, apex := range apexes {
		n := nodeOf(apex, acl("ann", "r- svc/"), svc("a", "1"), svc("b.c", "2"), svc("x", "3"))
		zone, _ := zoneForByWords(n.Replica.Book, "ann", apex)
		for _, name := range askedNames(zone) {
			for kind := int64(-1); kind <= 7; kind++ {
				q := ask(name)
				q.Type = kind
				_, a := askRespond(t, round, n, q, 3)
				if (a.Code == impl.QuBad) != (kind < 1 || kind > 5) {
					t.Fatalf("%v: %v", q, a)
				}
			}
		}
		for _, name := range slices.Concat(noNames(), []string{"", "x" + apex, apex + ".x", "zzz", apex + ".", "." + apex}) {
			if _, a := askRespond(t, round, n, ask(name), 3); a.Code != impl.QuBad {
				t.Fatalf("%.70q of %q: %v", name, apex, a)
			}
		}
	}
	for name, want := range map[string]int64{"zone": impl.QuEmpty, "a.zone": impl.QuOk, "b.c.zone": impl.QuOk, "c.zone": impl.QuNone, "a.a.zone": impl.QuNone, "-.zone": impl.QuNone, "z.zone": impl.QuNone, "e.zone": impl.QuNone, "zone.zone": impl.QuNone, "a": impl.QuBad, "": impl.QuBad, "a.zone.": impl.QuBad} {
		if _, a := askRespond(t, round, plainNode(), ask(name), 3); a.Code != want {
			t.Errorf("%q: %v", name, a)
		}
	}
}

// Types: each of the five at the Apex, at a name and at none; next to them on either side, and far away.
func TestRespondTypes(t *testing.T) {
	round := newSignRound(t)
	want := map[string][]int64{
		"zone":   {impl.QuOk, impl.QuOk, impl.QuEmpty, impl.QuEmpty, impl.QuEmpty},
		"a.zone": {impl.QuEmpty, impl.QuEmpty, impl.QuOk, impl.QuEmpty, impl.QuEmpty},
		"b.zone": {impl.QuNone, impl.QuNone, impl.QuNone, impl.QuNone, impl.QuNone},
	}
	for name, codes := range want {
		q := ask(name)
		for i, code := range codes {
			q.Type = int64(i + 1)
			if _, a := askRespond(t, round, plainNode(), q, 3); a.Code != code {
				t.Errorf("%v: %v", q, a)
			}
		}
		for _, q.Type = range noKinds() {
			next, a := askRespond(t, round, plainNode(), q, 3)
			if a.Code != impl.QuBad || len(next.Log) != 1 || next.Log[0].Text != fmt.Sprintf("0 %d 3", q.Type) {
				t.Errorf("%v: %v, %v", q, a, next.Log)
			}
		}
	}
}

// Sizes: just the bytes of AnswerText, one less and one more, 0, -1 and the farthest.
func TestRespondSizes(t *testing.T) {
	round := newSignRound(t)
	long := nodeOf("aaaaaaaaaaaa.bbbbbbbbbbbb.cccccccccccc", acl("ann", "r- svc/"), svc("dddddddddddd", strings.Repeat("v", 40)), svc("e", "a\nb"))
	nodes := []impl.Node{plainNode(), long}
	asked := 0
	for _, n := range nodes {
		zone, _ := zoneForByWords(n.Replica.Book, "ann", n.Apex)
		for _, r := range zone.Records {
			q := ask(r.Name)
			q.Type = r.Type
			whole := canonByPrint([]impl.Rr{r})
			just := int64(len("0 " + whole))
			for size := int64(-2); size <= just+2; size++ {
				q.Size = size
				_, a := askRespond(t, round, n, q, 3)
				askSize(t, n, q, a, r, just)
				asked++
			}
			for _, q.Size = range append([]int64{500, math.MaxInt64 - 1, math.MaxInt64}, noSizes...) {
				_, a := askRespond(t, round, n, q, 3)
				askSize(t, n, q, a, r, just)
			}
		}
	}
	if asked < 100 {
		t.Errorf("only %d", asked)
	}
}

// askSize wants what is answered of one Record by a Size, where all of it would have just so many bytes.
func askSize(t *testing.T, n impl.Node, q impl.Query, a impl.Answer, r impl.Rr, just int64) {
	t.Helper()
	want := impl.Answer{Seal: a.Seal}
	switch {
	case q.Size < 0:
		want.Code = impl.QuBad
	case q.Size < just:
		want.Cut = true
	default:
		want.Records = []impl.Rr{r}
	}
	if !sameAnswers(a, want) {
		t.Fatalf("%v: of %d bytes it is %v", q, just, a)
	}
	text := map[bool]string{true: "0 Cut", false: impl.AnswerText(want)}[a.Cut]
	if a.Seal != mustSeal(t, 8, text, 103) {
		t.Fatalf("%v: the Seal of %v is not of %q", q, a, text)
	}
	if d, _ := impl.DeedOf(n, impl.MaxTime); !impl.Secure(impl.DsOf(d), d, a, 3) {
		t.Fatalf("%v: %v is not Secure", q, a)
	}
}

// Only QuOk is ever Cut: what denies is told whole, however small the Size.
func TestRespondCutsOnlyWhatIsFound(t *testing.T) {
	round := newSignRound(t)
	n := plainNode()
	for code, queries := range otherQueries() {
		for _, q := range queries {
			for _, q.Size = range []int64{0, 1, 2, 3, 5} {
				_, a := askRespond(t, round, n, q, 3)
				if a.Code != code || a.Cut != (code == impl.QuOk) || (a.Deny.Owner == "") != (code == impl.QuOk) {
					t.Errorf("%v: %v", q, a)
				}
			}
			q.Token, q.Size = "nobody", 0
			if _, a := askRespond(t, round, n, q, 3); a.Code != impl.QuNo || a.Cut {
				t.Errorf("%v: %v", q, a)
			}
		}
	}
	q := ask("other")
	q.Size = 0
	if _, a := askRespond(t, round, n, q, 3); a.Code != impl.QuBad || a.Cut {
		t.Errorf("%v: %v", q, a)
	}
}

// What is Cut can't be passed off as whole, nor the other way round.
func TestCutIsSealed(t *testing.T) {
	n, q := plainNode(), ask("a.zone")
	d, _ := impl.DeedOf(n, impl.MaxTime)
	_, whole := impl.Respond(n, q, 3)
	q.Size = 1
	_, cut := impl.Respond(n, q, 3)
	for i, a := range []impl.Answer{whole, cut} {
		if !impl.Secure(impl.DsOf(d), d, a, 3) {
			t.Errorf("%d: %v is not Secure", i, a)
		}
		other := cloneAnswer(a)
		other.Cut = !a.Cut
		if impl.Secure(impl.DsOf(d), d, other, 3) {
			t.Errorf("%d: %v is Secure", i, other)
		}
	}
}

// A Seal is until now and MaxTtl, and until MaxTime where that would be above it; at MaxTime itself it is over at once.
func TestRespondSealUntil(t *testing.T) {
	round := newSignRound(t)
	queries := []impl.Query{ask("a.zone"), ask("b.zone"), ask("zone"), ask("other"), {Token: "nobody", Name: "zone", Type: 1}}
	for now, until := range map[int64]int64{0: 100, 1: 101, 500: 600, 999899: 999999, 999900: 1000000, 999901: 1000000, 999999: 1000000, 1000000: 1000000} {
		for _, q := range queries {
			n := plainNode()
			_, a := askRespond(t, round, n, q, now)
			if a.Seal.Until != until {
				t.Errorf("%v at %d: until %d", q, now, a.Seal.Until)
			}
			askSecure(t, round, n, a, now, map[string]int{})
		}
	}
}

// In each phase what is Signing seals, and nothing else.
func TestRespondInEachPhase(t *testing.T) {
	round := newSignRound(t)
	for i, roll := range phaseRolls() {
		n := plainNode()
		n.Roll = roll
		by := []int64{8, 8, 9}[i]
		for _, q := range []impl.Query{ask("a.zone"), ask("b.zone"), ask("zone"), ask("other"), {Token: "nobody", Name: "zone", Type: 1}} {
			_, a := askRespond(t, round, n, q, 300)
			if a.Seal != mustSeal(t, by, impl.AnswerText(a), 400) || a.Seal.Key != mustKey(t, by) {
				t.Errorf("phase %d: %v", roll.Phase, a)
			}
		}
	}
	for i, roll := range rightRolls() {
		n := plainNode()
		n.Roll = roll
		askRespond(t, round, n, ask("a.zone"), edgeTimes[i%len(edgeTimes)])
	}
}

// A log of MaxLog Lines stays as it is; where there is room for one, it is Noted.
func TestRespondNotes(t *testing.T) {
	round := newSignRound(t)
	for lines, room := range map[int]bool{0: true, 1: true, 150: true, 298: true, 299: true, 300: false} {
		for code, queries := range otherQueries() {
			n := plainNode()
			n.Log = fullLog(lines)
			q := queries[0]
			q.Source = 42
			next, a := askRespond(t, round, n, q, 3)
			if a.Code != code || !sameBuckets(next.Buckets, []impl.Bucket{bucket(42, 4, 3)}) {
				t.Errorf("%d Lines: %v, %v", lines, a, next.Buckets)
			}
			want := n.Log
			if room {
				want = mustNote(t, n.Log, fmt.Sprintf("42 %d %d", q.Type, code))
			}
			if !slices.Equal(next.Log, want) {
				t.Errorf("%d Lines: %d behind it", lines, len(next.Log))
			}
		}
	}
}

// QuStill changes nothing, and says nothing but its Code.
func TestRespondStill(t *testing.T) {
	round := newSignRound(t)
	for what, one := range stillCases() {
		for _, lines := range []int{0, 5, 300} {
			n := cloneNode(one.node)
			n.Log = fullLog(lines)
			for _, name := range []string{"a.zone", "b.zone", "zone", "other", ""} {
				q := ask(name)
				q.Source = one.query.Source
				next, a := askRespond(t, round, n, q, one.now)
				if !sameNodes(next, n) || !sameAnswers(a, impl.Answer{Code: impl.QuStill}) {
					t.Errorf("%s: %v, %s", what, a, showNode(next))
				}
				d, _ := impl.DeedOf(n, impl.MaxTime)
				if impl.Secure(impl.DsOf(d), d, a, one.now) {
					t.Errorf("%s: what is no answer is Secure", what)
				}
			}
		}
	}
}

// From one Source come MaxLeft answers at once, and then one a tick; what is QuBad counts as well.
func TestRespondSoMuchFromEach(t *testing.T) {
	n := plainNode()
	respond := func(source, now int64, name string) int64 {
		q := ask(name)
		q.Source = source
		var a impl.Answer
		n, a = impl.Respond(n, q, now)
		return a.Code
	}
	for i, name := range []string{"a.zone", "b.zone", "zone", "other", ".."} {
		if code := respond(4, 10, name); code != []int64{0, 1, 2, 3, 3}[i] {
			t.Fatalf("%q: %d", name, code)
		}
	}
	for _, name := range []string{"a.zone", "other"} {
		if code := respond(4, 10, name); code != impl.QuStill {
			t.Fatalf("%q: %d", name, code)
		}
	}
	if code := respond(5, 10, "a.zone"); code != impl.QuOk {
		t.Fatalf("another Source: %d", code)
	}
	if first, second, back := respond(4, 11, "a.zone"), respond(4, 11, "a.zone"), respond(4, 9, "a.zone"); first != impl.QuOk || second != impl.QuStill || back != impl.QuStill {
		t.Fatal(first, second, back)
	}
	if len(n.Log) != 7 {
		t.Errorf("%d Lines", len(n.Log))
	}
}

// answersToTell are of each Code, also of none, with each thing that may be told.
func answersToTell() []impl.Answer {
	records := [][]impl.Rr{nil, {}, {rr("a.zone", 3, 5, "1")}, {rr("a.zone", 3, 5, "1"), rr("a.zone", 3, 5, "2")}, {rr("", 1, 0, ""), rr("zone", 2, 100, "a\nb"), rr("a.zone", 3, 5, strings.Repeat("x", 60))}, {rr("a.zone", 3, 5, "Cut")}, {rr("b", 3, 5, "1"), rr("a", 3, 5, "1")}, {rr("A", 3, 5, "1")}, {rr("a", 6, 5, "1")}, {{}}, manyZone(60).Records, manyZone(61).Records}
	denies := []impl.Deny{{}, deny("a.zone", "zone"), deny("zone", "a.zone", 1), deny("zone", "zone", 1, 2), deny("a", "b", 1, 2, 3, 4, 5), deny("", ""), deny("", "a", 5, 5, -1, 0, math.MaxInt64, math.MinInt64), deny("no name", "\xff\n", 3), deny("a b", "c", 1), deny("a", "b c", 1)}
	list := []impl.Answer{}
	for _, code := range append(sixCodes, noCodes...) {
		for _, set := range records {
			for _, d := range denies {
				for _, cut := range []bool{false, true} {
					list = append(list, impl.Answer{Code: code, Records: set, Deny: d, Cut: cut})
				}
			}
		}
	}
	return list
}

func TestAnswerText(t *testing.T) {
	one, two := rr("a.zone", 3, 5, "1"), rr("a.zone", 3, 5, "22")
	for want, a := range map[string]impl.Answer{
		"0 ":                                  {},
		"0 Cut":                               {Cut: true},
		"0 a.zone 3 5 1 1\n":                  {Records: []impl.Rr{one}},
		"0 a.zone 3 5 1 1\nCut":               {Records: []impl.Rr{one}, Cut: true},
		"0 a.zone 3 5 1 1\na.zone 3 5 2 22\n": {Records: []impl.Rr{one, two}, Deny: deny("a", "b", 1)},
		"1 a zone":                            {Code: 1, Deny: deny("a", "zone")},
		"1 a zone 3":                          {Code: 1, Deny: deny("a", "zone", 3), Records: []impl.Rr{one}},
		"1  ":                                 {Code: 1},
		"1   -1":                              {Code: 1, Deny: deny("", "", -1)},
		"2 zone a 1 2":                        {Code: 2, Deny: deny("zone", "a", 1, 2)},
		"2 a zone 5 4 3":                      {Code: 2, Deny: deny("a", "zone", 5, 4, 3), Cut: true},
		"3 ":                                  {Code: 3, Records: []impl.Rr{one}, Deny: deny("a", "b", 1), Cut: true},
		"4 ":                                  {Code: 4, Records: []impl.Rr{one}, Deny: deny("a", "b", 1), Cut: true},
		"5 ":                                  {Code: 5, Records: []impl.Rr{one}, Deny: deny("a", "b", 1), Cut: true},
		"6 ":                                  {Code: 6, Records: []impl.Rr{one}, Deny: deny("a", "b", 1), Cut: true},
		"-1 ":                                 {Code: -1, Records: []impl.Rr{one}, Deny: deny("a", "b", 1), Cut: true},
		"-9223372036854775808 ":               {Code: math.MinInt64},
	} {
		if got := impl.AnswerText(a); got != want {
			t.Errorf("AnswerText(%v) = %q, not %q", a, got, want)
		}
	}
	// What are no Records is told by no Canon.
	for _, wrong := range [][]impl.Rr{{two, one}, {one, one}, {{}}, {rr("a.zone", 0, 5, "1")}, manyZone(61).Records} {
		whole, cut := impl.AnswerText(impl.Answer{Records: wrong}), impl.AnswerText(impl.Answer{Records: wrong, Cut: true})
		if whole != "0 " || cut != "0 Cut" {
			t.Errorf("%.200v: %q, %q", wrong, whole, cut)
		}
	}
}

func TestAnswerTextAsTheChapterSays(t *testing.T) {
	for _, a := range answersToTell() {
		if got, want := impl.AnswerText(a), answerTextByWords(a); got != want {
			t.Fatalf("AnswerText(%.300v) = %.300q, not %.300q", a, got, want)
		}
		sealed := cloneAnswer(a)
		sealed.Seal = impl.Seal{Key: impl.Base(), Until: 5}
		if impl.AnswerText(sealed) != impl.AnswerText(a) {
			t.Fatalf("of %.300v the Seal is told, too", a)
		}
	}
	for _, list := range noRecords() {
		if got := impl.AnswerText(impl.Answer{Records: list}); got != "0 " {
			t.Fatalf("%.200v: %.200q", list, got)
		}
	}
}

// DeedOf in each phase: the Zone is the Apex, the Keys are Served, sealed by Main.
func TestDeedOf(t *testing.T) {
	round := newSignRound(t)
	for i, roll := range phaseRolls() {
		n := plainNode()
		n.Roll = roll
		keys := round.keys([][]int64{{7, 8}, {7, 8, 9}, {7, 8, 9}}[i]...)
		for _, until := range edgeTimes {
			d, ok := impl.DeedOf(n, until)
			want := impl.Deed{Zone: "zone", Keys: keys, Seal: mustSeal(t, 7, "zone "+keysByPrint(keys), until)}
			if !ok || !sameDeed(d, want) {
				t.Errorf("phase %d, until %d: %v, %v", roll.Phase, until, d, ok)
			}
			if got := impl.DsOf(d); got != dsByPrint(want) {
				t.Errorf("DsOf is %d", got)
			}
		}
		for _, until := range noTimes {
			if d, ok := impl.DeedOf(n, until); ok || !sameDeed(d, impl.Deed{}) {
				t.Errorf("until %d: %v, %v", until, d, ok)
			}
		}
	}
	for i, n := range drawnNodes() {
		until := edgeTimes[i%len(edgeTimes)]
		d, ok := impl.DeedOf(n, until)
		if want, wantOk := deedOfByWords(round, n, until); ok != wantOk || !sameDeed(d, want) {
			t.Fatalf("%s: %v, %v, not %v", showNode(n), d, ok, want)
		}
	}
}

// Main alone makes the ds: whatever the Roll goes through, it stays the same.
func TestDeedOfOneDs(t *testing.T) {
	n := plainNode()
	first, _ := impl.DeedOf(n, impl.MaxTime)
	for _, r := range []impl.Roll{rollOf(1, 7, 9, 0, 0), rollOf(2, 7, 8, 9, 0), rollOf(3, 7, 100, 2548, 5), rollOf(1, 7, 7, 0, 0)} {
		n.Roll = r
		if d, ok := impl.DeedOf(n, 5); !ok || impl.DsOf(d) != impl.DsOf(first) {
			t.Errorf("%v: %v", r, d)
		}
	}
	n.Roll.Main = 8
	if d, _ := impl.DeedOf(n, 5); impl.DsOf(d) == impl.DsOf(first) {
		t.Error("another Main has the same ds")
	}
}

// answersToCheck are what a Node answers, of each Code but QuStill, and Cut.
func answersToCheck(n impl.Node, now int64) []impl.Answer {
	list := []impl.Answer{}
	cut := ask("a.zone")
	cut.Size = 3
	for _, q := range []impl.Query{ask("a.zone"), cut, ask("b.zone"), ask("zone"), ask("other"), {Token: "nobody", Name: "zone", Type: 1}} {
		_, a := impl.Respond(n, q, now)
		list = append(list, a)
	}
	return list
}

// askIsNotSecure goes by the second reading, too: what happens to have the same Challenge would be Secure.
func askIsNotSecure(t *testing.T, round signRound, what string, ds int64, d impl.Deed, a impl.Answer, now int64) {
	t.Helper()
	if impl.Secure(ds, d, a, now) || secureByWords(round, ds, d, a, now) {
		t.Errorf("%s: %v of %v is Secure", what, a, d)
	}
}

// Secure asks for the very Deed, Seal, text, ds and a time ahead of both ends.
func TestSecure(t *testing.T) {
	round := newSignRound(t)
	for _, roll := range phaseRolls() {
		n := plainNode()
		n.Roll = roll
		d, _ := impl.DeedOf(n, 450)
		ds := impl.DsOf(d)
		other := cloneNode(n)
		other.Roll.Main = 12
		otherDeed, _ := impl.DeedOf(other, 450)
		elsewhere := cloneNode(n)
		elsewhere.Apex = "other"
		elseDeed, _ := impl.DeedOf(elsewhere, 450)
		for _, a := range answersToCheck(n, 300) {
			for now := int64(295); now <= 460; now++ {
				if got := impl.Secure(ds, d, a, now); got != (now < 400) {
					t.Fatalf("%v at %d: %v", a, now, got)
				}
			}
			for _, now := range noTimes {
				askIsNotSecure(t, round, "no time", ds, d, a, now)
			}
			for _, wrong := range []int64{ds + 1, ds - 1, -ds, 0, -1, impl.DsOf(otherDeed), impl.DsOf(elseDeed), math.MinInt64, math.MaxInt64} {
				askIsNotSecure(t, round, "another ds", wrong, d, a, 300)
			}
			askIsNotSecure(t, round, "a Deed by another Main", ds, otherDeed, a, 300)
			askIsNotSecure(t, round, "a Deed of another Zone", ds, elseDeed, a, 300)
			askIsNotSecure(t, round, "the zero Deed", -1, impl.Deed{}, a, 300)
			if got := impl.Secure(impl.DsOf(otherDeed), otherDeed, a, 300); !got {
				t.Errorf("%v: by a Deed with the same key that signs it is not Secure", a)
			}
		}
	}
}

// Secure of a Deed that is over while the answer is not, just at its end and one ahead.
func TestSecureByADeedThatEnds(t *testing.T) {
	n := plainNode()
	for _, until := range []int64{0, 1, 300, 301, 350, 399, 400, 401} {
		d, _ := impl.DeedOf(n, until)
		for _, a := range answersToCheck(n, 300) {
			for now := int64(298); now <= 402; now++ {
				if got := impl.Secure(impl.DsOf(d), d, a, now); got != (now < until && now < 400) {
					t.Fatalf("a Deed until %d, at %d: %v", until, now, got)
				}
			}
		}
	}
}

// changedAnswers differ from a in one thing each that is told, or in the Seal.
func changedAnswers(round signRound, a impl.Answer) map[string]impl.Answer {
	changed := map[string]impl.Answer{}
	put := func(what string, change func(*impl.Answer)) {
		other := cloneAnswer(a)
		change(&other)
		changed[what] = other
	}
	put("no Seal", func(a *impl.Answer) { a.Seal = impl.Seal{} })
	put("a Seal that ends later", func(a *impl.Answer) { a.Seal.Until++ })
	put("a Seal that ends earlier", func(a *impl.Answer) { a.Seal.Until-- })
	put("another T", func(a *impl.Answer) { a.Seal.Sig.T = (a.Seal.Sig.T + 1) % 2549 })
	put("another R", func(a *impl.Answer) { a.Seal.Sig.R = round.list[77] })
	put("the Seal of nothing", func(a *impl.Answer) { a.Seal = round.seal(8, "", 400) })
	put("a Seal by nobody's key", func(a *impl.Answer) { a.Seal = round.seal(1000, answerTextByWords(*a), 400) })
	put("Cut", func(a *impl.Answer) { a.Cut = !a.Cut })
	put("a Record more", func(a *impl.Answer) { a.Records = append(a.Records, rr("z.zone", 3, 5, "9")) })
	put("no Records", func(a *impl.Answer) { a.Records = nil })
	put("another Owner", func(a *impl.Answer) { a.Deny.Owner += "x" })
	put("another Next", func(a *impl.Answer) { a.Deny.Next += "x" })
	put("a Type more", func(a *impl.Answer) { a.Deny.Types = append(a.Deny.Types, 4) })
	put("no Types", func(a *impl.Answer) { a.Deny.Types = nil })
	for i := range a.Records {
		put(fmt.Sprint("another Name ", i), func(a *impl.Answer) { a.Records[i].Name = "x.zone" })
		put(fmt.Sprint("another Type ", i), func(a *impl.Answer) { a.Records[i].Type = 4 })
		put(fmt.Sprint("another Ttl ", i), func(a *impl.Answer) { a.Records[i].Ttl = 6 })
		put(fmt.Sprint("another Text ", i), func(a *impl.Answer) { a.Records[i].Text += "x" })
	}
	for _, code := range append(sixCodes, noCodes...) {
		put(fmt.Sprint("Code ", code), func(a *impl.Answer) { a.Code = code })
	}
	return changed
}

// Secure of an answer that is changed in one thing: it is so just where AnswerText and the Seal stay as they were.
func TestSecureOfChangedAnswers(t *testing.T) {
	round := newSignRound(t)
	n := plainNode()
	d, _ := impl.DeedOf(n, 450)
	same, others := 0, 0
	for _, a := range answersToCheck(n, 300) {
		for what, other := range changedAnswers(round, a) {
			secure := impl.Secure(impl.DsOf(d), d, other, 300)
			if secure != secureByWords(round, impl.DsOf(d), d, other, 300) {
				t.Errorf("%s: Secure of %v is %v", what, other, secure)
			}
			if impl.AnswerText(other) == impl.AnswerText(a) && other.Seal == a.Seal {
				same++
				if !secure {
					t.Errorf("%s: %v is not Secure", what, other)
				}
			} else if others++; secure {
				t.Errorf("%s: %v is Secure", what, other)
			}
		}
	}
	if same < 10 || others < 100 {
		t.Errorf("%d stay, %d are others", same, others)
	}
}

// An answer that another of the Keys sealed is Secure as well: any of them may.
func TestSecureByAnyOfTheKeys(t *testing.T) {
	round := newSignRound(t)
	n := plainNode()
	n.Roll = rollOf(2, 7, 8, 9, 0)
	d, _ := impl.DeedOf(n, 450)
	for _, a := range answersToCheck(n, 300) {
		for secret := int64(1); secret <= 30; secret++ {
			a.Seal = round.seal(secret, answerTextByWords(a), 400)
			if got := impl.Secure(impl.DsOf(d), d, a, 399); got != (secret >= 7 && secret <= 9) {
				t.Errorf("by %d: %v", secret, got)
			}
		}
	}
}

// Secure of answers of any kind, rightly sealed, though no Node would give them.
func TestSecureOfAnyAnswer(t *testing.T) {
	round := newSignRound(t)
	d, _ := impl.DeedOf(plainNode(), 450)
	for i, a := range answersToTell() {
		if i%7 > 0 {
			continue
		}
		a.Seal = round.seal(8, answerTextByWords(a), 400)
		if !impl.Secure(impl.DsOf(d), d, a, 399) || impl.Secure(impl.DsOf(d), d, a, 400) {
			t.Fatalf("%.300v", a)
		}
	}
}

func TestNewNode(t *testing.T) {
	for _, apex := range append(edgeNames()[1:], apexes...) {
		for i, main := range edgeSecrets {
			old := edgeSecrets[(i*3)%len(edgeSecrets)]
			n, ok := impl.NewNode(apex, main, old)
			if want := (impl.Node{Roll: mustRoll(t, main, old, 0), Apex: apex}); !ok || !sameNodes(n, want) || !impl.NodeOk(n) {
				t.Fatalf("NewNode(%q, %d, %d) is %s, %v", apex, main, old, showNode(n), ok)
			}
		}
	}
	refuse := func(apex string, main, old int64) {
		t.Helper()
		if n, ok := impl.NewNode(apex, main, old); ok || !sameNodes(n, impl.Node{}) {
			t.Errorf("NewNode(%.70q, %d, %d) is %s, %v", apex, main, old, showNode(n), ok)
		}
	}
	for _, apex := range append(noNames(), "") {
		refuse(apex, 7, 8)
	}
	for _, wrong := range noSecrets {
		refuse("zone", wrong, 8)
		refuse("zone", 7, wrong)
		refuse("zone", wrong, wrong)
		refuse("", wrong, 8)
		refuse(".", 7, wrong)
	}
}

// noNodesAtAll are wrong in one part each, of all ways in which that part can be; the others are right.
func noNodesAtAll() map[string]impl.Node {
	nodes := map[string]impl.Node{"the zero Node": {}}
	put := func(what string, change func(*impl.Node)) {
		n := plainNode()
		n.Replica.Members, n.Buckets, n.Log = manyMembers(0, 3), manyBuckets(3), fullLog(3)
		change(&n)
		nodes[what] = n
	}
	for what, book := range noBooks() {
		put("Book: "+what, func(n *impl.Node) { n.Replica.Book = book })
	}
	for what, members := range noMembers() {
		put("Members: "+what, func(n *impl.Node) { n.Replica.Members = members })
	}
	for _, roll := range noRolls() {
		put(fmt.Sprint("Roll: ", roll), func(n *impl.Node) { n.Roll = roll })
	}
	for what, buckets := range noBuckets() {
		put("Buckets: "+what, func(n *impl.Node) { n.Buckets = buckets })
	}
	for what, log := range noLogs() {
		put("Log: "+what, func(n *impl.Node) { n.Log = log })
	}
	for _, apex := range append(noNames(), "") {
		put("Apex: "+apex, func(n *impl.Node) { n.Apex = apex })
	}
	return nodes
}

// A Node that is not right in one part is none: nothing is answered of it, whatever is asked.
func TestNoNode(t *testing.T) {
	for what, n := range noNodesAtAll() {
		if nodeByWords(n) || impl.NodeOk(n) {
			t.Fatalf("%.60s: NodeOk", what)
		}
		for _, q := range []impl.Query{ask("a.zone"), ask("b.zone"), ask("other"), {}, {Source: -1}, {Source: 2, Token: "nobody", Name: "zone", Type: 1}} {
			for _, now := range []int64{0, 50, 1000000, -1, 1000001} {
				if next, a := impl.Respond(n, q, now); !sameNodes(next, impl.Node{}) || !sameAnswers(a, impl.Answer{}) {
					t.Fatalf("%.60s: Respond is %v, %s", what, a, showNode(next))
				}
			}
		}
		for _, until := range []int64{0, 50, 1000000, -1, 1000001} {
			if d, ok := impl.DeedOf(n, until); ok || !sameDeed(d, impl.Deed{}) {
				t.Fatalf("%.60s: DeedOf is %v, %v", what, d, ok)
			}
		}
	}
}

func TestNodeOk(t *testing.T) {
	for _, n := range drawnNodes() {
		if !impl.NodeOk(n) || !nodeByWords(n) {
			t.Fatalf("%s is not NodeOk", showNode(n))
		}
	}
	put := func(what string, change func(*impl.Node)) {
		t.Helper()
		n := plainNode()
		change(&n)
		if !impl.NodeOk(n) || !nodeByWords(n) {
			t.Errorf("%s: %s is not NodeOk", what, showNode(n))
		}
	}
	for _, book := range someBooks() {
		put("Book", func(n *impl.Node) { n.Replica.Book = book })
	}
	for _, members := range someMembers() {
		put("Members", func(n *impl.Node) { n.Replica.Members = members })
	}
	for _, roll := range rightRolls() {
		put("Roll", func(n *impl.Node) { n.Roll = roll })
	}
	for _, buckets := range someBuckets() {
		put("Buckets", func(n *impl.Node) { n.Buckets = buckets })
	}
	for _, log := range someLogs() {
		put("Log", func(n *impl.Node) { n.Log = log })
	}
	for _, apex := range edgeNames()[1:] {
		put("Apex", func(n *impl.Node) { n.Apex = apex })
	}
}

// A now that is no time gets the zero ones, of any Node and any Query.
func TestRespondAtNoTime(t *testing.T) {
	for i, n := range append(drawnNodes(), plainNode()) {
		now := noTimes[i%len(noTimes)]
		for _, q := range []impl.Query{ask("a." + n.Apex), ask(n.Apex), ask(""), {}, {Source: -1}} {
			if next, a := impl.Respond(n, q, now); !sameNodes(next, impl.Node{}) || !sameAnswers(a, impl.Answer{}) {
				t.Fatalf("at %d: %v, %s", now, a, showNode(next))
			}
		}
	}
	for _, now := range noTimes {
		if next, a := impl.Respond(plainNode(), ask("a.zone"), now); !sameNodes(next, impl.Node{}) || !sameAnswers(a, impl.Answer{}) {
			t.Errorf("at %d: %v, %s", now, a, showNode(next))
		}
	}
	for _, now := range []int64{0, 1, 999999, 1000000} {
		if _, a := impl.Respond(plainNode(), ask("a.zone"), now); len(a.Records) != 1 {
			t.Errorf("at %d: %v", now, a)
		}
	}
}

// Any bytes and numbers: they are answered as the chapter says, and nothing panics.
func TestServersOfAnything(t *testing.T) {
	round := newSignRound(t)
	draw := drawFrom(173)
	numbers := []int64{math.MinInt64, -1, 0, 1, 2, 3, 5, 6, 8, 50, 99, 100, 101, 500, 1000000, 1000001, math.MaxInt64}
	number := func() int64 { return numbers[draw(len(numbers))] }
	texts := []string{"", "zone", "a.zone", "a", "ann", ".", "acl/ann", "svc/a", "r- ", "r- svc/", "\xff", "1", strings.Repeat("a", 41)}
	text := func() string { return texts[draw(len(texts))] }
	right := 0
	for range 6000 {
		n := impl.Node{Apex: text(), Roll: rollOf(number(), number(), number(), number(), number())}
		if draw(3) > 0 {
			n.Apex, n.Roll = "zone", phaseRolls()[draw(3)]
		}
		for range draw(4) {
			n.Replica.Book = append(n.Replica.Book, impl.Entry{Key: text(), Value: text(), Time: number(), Node: number(), Gone: draw(5) == 0})
		}
		if draw(2) == 0 {
			n.Replica.Book = bookOf(acl("ann", "r- "), svc("a", text()))
		}
		for range draw(3) * draw(2) {
			n.Buckets = append(n.Buckets, bucket(number(), number(), number()))
		}
		for range draw(3) * draw(2) {
			n.Log = append(n.Log, impl.Line{Text: text(), Sum: number()})
		}
		if draw(2) == 0 {
			n.Log = chainAnew(n.Log)
		}
		q := impl.Query{Source: number(), Token: text(), Name: text(), Type: number(), Size: number()}
		now := number()
		askRespond(t, round, n, q, now)
		if impl.NodeOk(n) != nodeByWords(n) {
			t.Fatalf("%s: NodeOk", showNode(n))
		}
		d, ok := impl.DeedOf(n, now)
		if want, wantOk := deedOfByWords(round, n, now); ok != wantOk || !sameDeed(d, want) {
			t.Fatalf("%s: DeedOf is %v, %v", showNode(n), d, ok)
		}
		if ok {
			right++
		}
		a := impl.Answer{Code: number(), Deny: deny(text(), text(), number()), Records: []impl.Rr{rr(text(), number(), number(), text())}, Seal: impl.Seal{Key: impl.Point{X: number(), Y: number()}, Until: number()}, Cut: draw(2) == 0}
		if impl.AnswerText(a) != answerTextByWords(a) || impl.Secure(number(), d, a, now) {
			t.Fatalf("%v", a)
		}
	}
	if right < 300 {
		t.Errorf("only %d are right", right)
	}
}

// No panic comes out, whatever they are given.
func TestServersOfFarTooMuch(t *testing.T) {
	long := strings.Repeat("a.", 1<<20)
	many := impl.Node{
		Replica: replica(make([]impl.Entry, 10000), make([]impl.Member, 10000)),
		Buckets: make([]impl.Bucket, 10000), Log: make([]impl.Line, 10000), Apex: long,
	}
	for _, n := range []impl.Node{{}, many, {Apex: long}} {
		if next, a := impl.Respond(n, impl.Query{Token: long, Name: long}, 3); impl.NodeOk(n) || !sameNodes(next, impl.Node{}) || !sameAnswers(a, impl.Answer{}) {
			t.Error("Respond answers")
		}
		if d, ok := impl.DeedOf(n, 3); ok || !sameDeed(d, impl.Deed{}) {
			t.Error("DeedOf answers")
		}
	}
	if _, ok := impl.NewNode(long, math.MaxInt64, math.MinInt64); ok {
		t.Error("NewNode says true")
	}
	_, a := impl.Respond(plainNode(), impl.Query{Token: long, Name: long, Type: math.MinInt64, Size: math.MinInt64}, 3)
	if a.Code != impl.QuBad {
		t.Error(a)
	}
	_, a = impl.Respond(plainNode(), impl.Query{Token: long, Name: "zone", Type: 1, Size: math.MaxInt64}, 3)
	if a.Code != impl.QuNo {
		t.Error(a)
	}
	a = impl.Answer{Code: 1, Records: make([]impl.Rr, 10000), Deny: impl.Deny{Owner: long, Next: long, Types: make([]int64, 100000)}}
	if got := impl.AnswerText(a); len(got) != 2+2*len(long)+1+2*100000 {
		t.Errorf("AnswerText has %d bytes", len(got))
	}
	if impl.Secure(0, impl.Deed{Zone: long, Keys: make([]impl.Point, 10000)}, a, 3) || impl.Secure(-1, impl.Deed{}, impl.Answer{}, 0) {
		t.Error("Secure")
	}
}

// A laidNode is a Node and all the arrays that its lists lie in, with marked room behind each.
type laidNode struct {
	node    impl.Node
	book    []impl.Entry
	members []impl.Member
	buckets []impl.Bucket
	log     []impl.Line
}

var roomBucket = bucket(-7, -7, -7)

func layNode(n impl.Node, room int) (l laidNode) {
	l.node = n
	l.node.Replica.Book, l.book = roomyOf(n.Replica.Book, room, roomEntry)
	l.node.Replica.Members, l.members = roomyOf(n.Replica.Members, room, roomMember)
	l.node.Buckets, l.buckets = roomyOf(n.Buckets, room, roomBucket)
	l.node.Log, l.log = roomy(n.Log, room)
	return l
}

// watched is asked later whether all arrays are as they are now.
func (l laidNode) watched() func() bool {
	book, members, buckets, log := slices.Clone(l.book), slices.Clone(l.members), slices.Clone(l.buckets), slices.Clone(l.log)
	return func() bool {
		return sameBooks(l.book, book) && sameMembers(l.members, members) && sameBuckets(l.buckets, buckets) && slices.Equal(l.log, log)
	}
}

func (l laidNode) scribble() {
	scribbleOnReplica(impl.Replica{Book: l.book, Members: l.members})
	scribbleOn(l.buckets, scribbledBucket)
	scribble(l.log)
}

// serverAnswer is all that is answered of one Node, Query and time.
type serverAnswer struct {
	node   impl.Node
	answer impl.Answer
	deed   impl.Deed
	told   string
}

func serverAnswers(n impl.Node, q impl.Query, now int64) (s serverAnswer) {
	s.node, s.answer = impl.Respond(n, q, now)
	var ok bool
	s.deed, ok = impl.DeedOf(n, now)
	secure := impl.Secure(impl.DsOf(s.deed), s.deed, s.answer, now-1)
	made, is := impl.NewNode(n.Apex, n.Roll.Main, n.Roll.Old)
	s.told = fmt.Sprint(impl.NodeOk(n), ok, secure, is, showNode(made), impl.AnswerText(s.answer))
	return s
}

func (s serverAnswer) clone() serverAnswer {
	return serverAnswer{cloneNode(s.node), cloneAnswer(s.answer), cloneDeed(s.deed), s.told}
}

func (s serverAnswer) same(other serverAnswer) bool {
	return sameNodes(s.node, other.node) && sameAnswers(s.answer, other.answer) && sameDeed(s.deed, other.deed) && s.told == other.told
}

var scribbledPoint = impl.Point{X: -9, Y: -9}

func (s serverAnswer) scribble() {
	scribbleOnReplica(s.node.Replica)
	scribbleOn(s.node.Buckets, scribbledBucket)
	scribble(s.node.Log)
	scribbleOn(s.answer.Records, scribbledRr)
	scribbleOn(s.answer.Deny.Types, -9)
	scribbleOn(s.deed.Keys, scribbledPoint)
}

// serverArguments are right and wrong ones, of each Code.
func serverArguments() []question {
	list := []question{}
	for i, one := range drawnQuestions(2) {
		if i%2 == 0 {
			list = append(list, one)
		}
	}
	n := plainNode()
	n.Replica.Members, n.Log = manyMembers(0, 8), fullLog(7)
	for _, queries := range otherQueries() {
		for _, q := range queries {
			list = append(list, question{n, q, 50})
		}
	}
	full := cloneNode(n)
	full.Log = fullLog(300)
	list = append(list, question{full, ask("a.zone"), 50}, question{n, impl.Query{}, 50}, question{n, ask("a.zone"), -1}, question{n, impl.Query{Source: 100}, 50})
	for _, one := range stillCases() {
		list = append(list, one)
	}
	wrong := noNodesAtAll()
	for i, what := range slices.Sorted(maps.Keys(wrong)) {
		if i%40 == 0 {
			list = append(list, question{wrong[what], ask("a.zone"), 50})
		}
	}
	return list
}

// Promise 21 of chapter 17: nothing is written into a Node or the room behind its lists, and no answer lies there.
func TestPromise21ServerArgumentsStay(t *testing.T) {
	for i, one := range serverArguments() {
		want := serverAnswers(cloneNode(one.node), one.query, one.now)
		for _, room := range []int{0, 1, 90} {
			l := layNode(one.node, room)
			same := l.watched()
			got := serverAnswers(l.node, one.query, one.now)
			if !same() || !sameNodes(l.node, one.node) {
				t.Fatalf("question %d with room for %d: something was written", i, room)
			}
			if !got.same(want) {
				t.Fatalf("question %d with room for %d: %s, not %s", i, room, got.told, want.told)
			}
			got.scribble()
			if !same() {
				t.Fatalf("question %d with room for %d: an answer shares memory", i, room)
			}
		}
	}
}

// Promise 21: a Node that is written to later changes no answer.
func TestPromise21ServerAnswersStay(t *testing.T) {
	for i, one := range serverArguments() {
		l := layNode(one.node, 3)
		got := serverAnswers(l.node, one.query, one.now)
		want := got.clone()
		l.scribble()
		if !got.same(want) {
			t.Fatalf("question %d: an answer shares memory", i)
		}
	}
}

// Promise 21: no two lists of one answer share any, nor do the Node behind Respond and the Answer.
func TestPromise21ServerListsOfOneAnswerAreApart(t *testing.T) {
	for i, one := range serverArguments() {
		got := serverAnswers(one.node, one.query, one.now)
		want := got.clone()
		for what, write := range map[string]func(s serverAnswer){
			"Book":    func(s serverAnswer) { scribbleOn(s.node.Replica.Book, scribbled) },
			"Members": func(s serverAnswer) { scribbleOn(s.node.Replica.Members, scribbledMember) },
			"Buckets": func(s serverAnswer) { scribbleOn(s.node.Buckets, scribbledBucket) },
			"Log":     func(s serverAnswer) { scribble(s.node.Log) },
			"Records": func(s serverAnswer) { scribbleOn(s.answer.Records, scribbledRr) },
			"Types":   func(s serverAnswer) { scribbleOn(s.answer.Deny.Types, -9) },
			"Keys":    func(s serverAnswer) { scribbleOn(s.deed.Keys, scribbledPoint) },
		} {
			write(got)
			write(want)
			if !got.same(want) {
				t.Fatalf("question %d: the %s share memory with another list", i, what)
			}
		}
	}
}

// Promise 21: no two answers have anything in common, be they to the same, or one out of the other.
func TestPromise21ServerAnswersAreApart(t *testing.T) {
	for i, one := range serverArguments() {
		first, second := serverAnswers(one.node, one.query, one.now), serverAnswers(one.node, one.query, one.now)
		on := serverAnswers(first.node, one.query, one.now)
		want, wantOn := second.clone(), on.clone()
		first.scribble()
		if !second.same(want) || !on.same(wantOn) {
			t.Fatalf("question %d: two answers share memory", i)
		}
		on.scribble()
		if !second.same(want) || !serverAnswers(one.node, one.query, one.now).same(want) {
			t.Fatalf("question %d: two answers share memory", i)
		}
	}
}

// Promise 21: two that go on from one Node do not write over each other, however many Lines and Buckets it has.
func TestPromise21ServerTwoWaysOn(t *testing.T) {
	n := plainNode()
	for i := range 60 {
		left, _ := impl.Respond(n, ask("a.zone"), int64(i))
		want := cloneNode(left)
		q := ask("b.zone")
		q.Source = int64(1 + i%15)
		right, _ := impl.Respond(n, q, int64(i))
		if !sameNodes(left, want) || left.Log[i].Text != "0 3 0" || right.Log[i].Text != fmt.Sprintf("%d 3 1", q.Source) {
			t.Fatalf("at %d: %s and %s", i, showNode(left), showNode(right))
		}
		n = right
	}
}

// Promise 21: AnswerText and Secure write nothing into an Answer, a Deed or the room behind their lists.
func TestPromise21AnswersThatAreGivenStay(t *testing.T) {
	d, _ := impl.DeedOf(plainNode(), 450)
	for i, a := range slices.Concat(answersToTell(), answersToCheck(plainNode(), 300)) {
		given, deed := a, d
		var records []impl.Rr
		var types []int64
		var keys []impl.Point
		given.Records, records = roomyOf(a.Records, 3, scribbledRr)
		given.Deny.Types, types = roomyOf(a.Deny.Types, 3, -9)
		deed.Keys, keys = roomyOf(d.Keys, 3, scribbledPoint)
		wantRecords, wantTypes, wantKeys := slices.Clone(records), slices.Clone(types), slices.Clone(keys)
		text, secure := impl.AnswerText(given), impl.Secure(impl.DsOf(deed), deed, given, 300)
		if !sameRrs(records, wantRecords) || !slices.Equal(types, wantTypes) || !slices.Equal(keys, wantKeys) {
			t.Fatalf("Answer %d: something was written", i)
		}
		if text != impl.AnswerText(cloneAnswer(a)) || secure != impl.Secure(impl.DsOf(d), d, cloneAnswer(a), 300) {
			t.Fatalf("Answer %d: the room behind it counts", i)
		}
		was := strings.Clone(text)
		scribbleOn(records, scribbledRr)
		scribbleOn(types, -9)
		if text != was {
			t.Fatalf("Answer %d: its text became %q", i, text)
		}
	}
}

// Promise 21: the same arguments get the same answers again, whatever was asked in between.
func TestPromise21ServerAgain(t *testing.T) {
	list := serverArguments()
	first := []serverAnswer{}
	for _, one := range list {
		first = append(first, serverAnswers(one.node, one.query, one.now))
	}
	for i, one := range slices.Backward(list) {
		if got := serverAnswers(cloneNode(one.node), one.query, one.now); !got.same(first[i]) {
			t.Fatalf("question %d: %s, then %s", i, first[i].told, got.told)
		}
	}
}

// Promise 21: one Node is asked by many at the same time; .ci/run asks this under the race detector, too.
func TestAtTheSameTimeRespond(t *testing.T) {
	for i, one := range serverArguments() {
		if i%8 > 0 {
			continue
		}
		l := layNode(one.node, 3)
		want := serverAnswers(cloneNode(one.node), one.query, one.now)
		var all sync.WaitGroup
		for range 4 {
			all.Go(func() {
				got := serverAnswers(l.node, one.query, one.now)
				if !got.same(want) {
					t.Errorf("question %d: the answers are others at the same time", i)
				}
				got.scribble()
			})
		}
		all.Wait()
	}
}
