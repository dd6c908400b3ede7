package tests

import (
	"fmt"
	"maps"
	"math"
	"slices"
	"strings"
	"sync"
	"testing"

	"loop.example/g00307/impl"
)

// The constants have no kind of their own, so that they go with any number.
const (
	_ float64 = impl.AcWrite
	_ uint8   = impl.AcTell
	_ float64 = impl.AcTick
	_ int32   = impl.AcAsk
	_ float64 = impl.AcStep
)

// noActKinds are none of the five, the nearest and the farthest.
var noActKinds = []int64{math.MinInt64, math.MinInt64 + 1, -5, -4, -3, -2, -1, 0, 6, 7, 10, 256 + 1, 1 << 32, 1<<32 + 3, math.MaxInt64 - 1, math.MaxInt64}

// noCounts of Nodes are wrong on either side, the nearest and the farthest.
var noCounts = []int64{math.MinInt64, math.MinInt64 + 1, -1 << 32, -4, -2, -1, 0, 5, 6, 8, 100, 1 << 32, 1<<32 + 2, math.MaxInt64 - 1, math.MaxInt64}

func groupOf(c impl.Cluster) []impl.Replica {
	list := []impl.Replica{}
	for _, n := range c.Nodes {
		list = append(list, n.Replica)
	}
	return list
}

// clusterByWords asks each thing for itself, where the program gives up at the first one.
func clusterByWords(c impl.Cluster) bool {
	apexes := map[string]int{}
	wrong := 0
	for _, n := range c.Nodes {
		apexes[n.Apex]++
		if !nodeByWords(n) {
			wrong++
		}
	}
	for _, clock := range c.Clock {
		if clock < 0 || clock > 1000000 {
			wrong++
		}
	}
	number := len(c.Nodes) > 0 && len(c.Nodes) < 5 && len(c.Clock) == len(c.Nodes)
	return timeByWords(c.Now) && number && wrong == 0 && len(apexes) == 1 && groupByWords(groupOf(c))
}

// writtenByWords makes the whole Cluster as it would be, and asks whether that is one.
func writtenByWords(c impl.Cluster, a impl.Act) (impl.Cluster, bool) {
	book := c.Nodes[a.Node].Replica.Book
	times := []int64{c.Clock[a.Node]}
	for _, e := range book {
		times = append(times, e.Time)
	}
	next, time := cloneCluster(c), 1+slices.Max(times)
	next.Clock[a.Node] = time
	e := impl.Entry{Key: a.Key, Value: a.Value, Time: time, Node: a.Node, Gone: a.Gone}
	next.Nodes[a.Node].Replica.Book = bookOf(append(slices.Clone(book), e)...)
	lets := a.Token == "root" || letsByWords(book, a.Token, a.Key, true)
	if !lets || !clusterByWords(next) {
		return cloneCluster(c), false
	}
	return next, true
}

func happenByWords(round signRound, c impl.Cluster, a impl.Act) (impl.Cluster, impl.Answer, bool) {
	if !clusterByWords(c) {
		return impl.Cluster{}, impl.Answer{}, false
	}
	next, there := cloneCluster(c), a.Node >= 0 && a.Node < int64(len(c.Nodes))
	switch {
	case a.Kind == 1 && there:
		next, ok := writtenByWords(c, a)
		return next, impl.Answer{}, ok
	case a.Kind == 2:
		told, ok := toldByWords(groupOf(c), a.Node, a.To)
		for i := range told {
			next.Nodes[i].Replica = told[i]
		}
		return next, impl.Answer{}, ok
	case a.Kind == 3 && c.Now < 1000000:
		next.Now++
		return next, impl.Answer{}, true
	case a.Kind == 4 && there:
		node, answer := respondByWords(round, c.Nodes[a.Node], a.Query, c.Now)
		next.Nodes[a.Node] = node
		return next, answer, true
	case a.Kind == 5 && there:
		roll, ok := stepByWords(c.Nodes[a.Node].Roll, c.Now, 100)
		next.Nodes[a.Node].Roll = roll
		return next, impl.Answer{}, ok
	}
	return next, impl.Answer{}, false
}

// playByWords keeps the Answers of all AcAsk at a Node that is there: just these are done.
func playByWords(round signRound, c impl.Cluster, list []impl.Act) (impl.Cluster, []impl.Answer) {
	if !clusterByWords(c) || len(list) > 200 {
		return impl.Cluster{}, nil
	}
	answers := []impl.Answer{}
	for _, a := range list {
		next, answer, _ := happenByWords(round, c, a)
		if a.Kind == 4 && a.Node >= 0 && a.Node < int64(len(c.Nodes)) {
			answers = append(answers, answer)
		}
		c = next
	}
	return cloneCluster(c), answers
}

func settledByWords(c impl.Cluster) impl.Cluster {
	if !clusterByWords(c) {
		return impl.Cluster{}
	}
	next := cloneCluster(c)
	for i := range next.Nodes {
		next.Nodes[i].Replica = wholeByWords(groupOf(c))
	}
	return next
}

func cloneCluster(c impl.Cluster) impl.Cluster {
	clone := impl.Cluster{Now: c.Now, Clock: slices.Clone(c.Clock)}
	for _, n := range c.Nodes {
		clone.Nodes = append(clone.Nodes, cloneNode(n))
	}
	return clone
}

func cloneAnswers(list []impl.Answer) []impl.Answer {
	clone := []impl.Answer{}
	for _, a := range list {
		clone = append(clone, cloneAnswer(a))
	}
	return clone
}

func sameClusters(a, b impl.Cluster) bool {
	return a.Now == b.Now && slices.EqualFunc(a.Nodes, b.Nodes, sameNodes) && slices.Equal(a.Clock, b.Clock)
}

func sameAnswerLists(a, b []impl.Answer) bool { return slices.EqualFunc(a, b, sameAnswers) }

func showCluster(c impl.Cluster) string {
	text := fmt.Sprintf("at %d, Clock %v:", c.Now, c.Clock)
	for _, n := range c.Nodes {
		text += "\n\t" + showNode(n)
	}
	return text
}

func write(node int64, token, key, value string) impl.Act {
	return impl.Act{Kind: impl.AcWrite, Node: node, Token: token, Key: key, Value: value}
}

func revoke(node int64, token, key string) impl.Act {
	return impl.Act{Kind: impl.AcWrite, Node: node, Token: token, Key: key, Gone: true}
}

func tell(from, to int64) impl.Act { return impl.Act{Kind: impl.AcTell, Node: from, To: to} }

func askOf(node int64, q impl.Query) impl.Act {
	return impl.Act{Kind: impl.AcAsk, Node: node, Query: q}
}

var tickAct = impl.Act{Kind: impl.AcTick}

func stepOf(node int64) impl.Act { return impl.Act{Kind: impl.AcStep, Node: node} }

// clusterOf has these books in Nodes of the zone; Now is 50, and each Clock 0.
func clusterOf(books ...[]impl.Entry) impl.Cluster {
	c := impl.Cluster{Now: 50, Clock: make([]int64, len(books))}
	for i, book := range books {
		n := nodeOf("zone", book...)
		n.Roll.Old += int64(i)
		c.Nodes = append(c.Nodes, n)
	}
	return c
}

func mustCluster(t *testing.T, apex string, nodes int64) impl.Cluster {
	t.Helper()
	c, ok := impl.NewCluster(apex, nodes)
	if !ok || !impl.ClusterOk(c) {
		t.Fatalf("NewCluster(%q, %d) is %s, %v", apex, nodes, showCluster(c), ok)
	}
	return c
}

// mustHappen is what a Cluster is behind Acts that are all done.
func mustHappen(t *testing.T, c impl.Cluster, list ...impl.Act) impl.Cluster {
	t.Helper()
	for _, a := range list {
		next, _, ok := impl.Happen(c, a)
		if !ok {
			t.Fatalf("%v is not done: %s", a, showCluster(c))
		}
		c = next
	}
	return c
}

// askRefused wants nothing done: the Cluster as it was, and no Answer.
func askRefused(t *testing.T, what string, c impl.Cluster, a impl.Act) {
	t.Helper()
	next, answer, ok := impl.Happen(c, a)
	if ok || !sameClusters(next, c) || !sameAnswers(answer, impl.Answer{}) {
		t.Fatalf("%s: %.300v is %v, %v, %s\nbehind %s", what, a, ok, answer, showCluster(next), showCluster(c))
	}
}

// askHappen holds what happens against the second reading of the chapter, and asks for the first half of promise 18.
func askHappen(t *testing.T, round signRound, c impl.Cluster, a impl.Act) (impl.Cluster, impl.Answer, bool) {
	t.Helper()
	next, answer, ok := impl.Happen(c, a)
	want, wantAnswer, wantOk := happenByWords(round, c, a)
	if ok != wantOk || !sameAnswers(answer, wantAnswer) || !sameClusters(next, want) {
		t.Fatalf("%.300v: %v, %.300v, %s\nnot %v, %.300v, %s\nbehind %s", a, ok, answer, showCluster(next), wantOk, wantAnswer, showCluster(want), showCluster(c))
	}
	if !clusterByWords(c) {
		return next, answer, ok
	}
	if !impl.ClusterOk(next) {
		t.Fatalf("behind %.300v it is no Cluster: %s", a, showCluster(next))
	}
	if !ok && (!sameClusters(next, c) || !sameAnswers(answer, impl.Answer{})) {
		t.Fatalf("%.300v is not done, but %.300v, %s", a, answer, showCluster(next))
	}
	return next, answer, ok
}

// A palette is what Clusters and Acts are drawn from.
type palette struct {
	draw                 func(int) int
	names, others, texts []string
	members              [][]impl.Member
}

func newPalette(seed uint32) palette {
	return palette{drawFrom(seed), serviceNames()[:12], otherKeys()[:8], ruleTexts()[:25], someMembers()}
}

// rollNear is of any phase, with a time about MaxTtl ahead of now, and often with 100 as one of its secrets.
func (p palette) rollNear(now int64) impl.Roll {
	secrets := []int64{7, 8, 9, 100, 100, 2548}
	secret := func() int64 { return secrets[p.draw(len(secrets))] }
	at := now - []int64{-5, 0, 1, 98, 99, 100, 100, 101, 300}[p.draw(9)]
	r := rollOf(int64(1+p.draw(3)), secret(), secret(), secret(), min(max(at, 0), impl.MaxTime))
	if r.Phase == impl.RoStable {
		r.New = 0
	}
	return r
}

// bucketsNear are few or as many as there may be, about now.
func (p palette) bucketsNear(now int64) []impl.Bucket {
	list := []impl.Bucket{}
	many := []int{0, 1, 3, 20}[p.draw(4)]
	for i := range int64(many) {
		at := now + []int64{-9, -2, -1, 0, 0, 0, 1}[p.draw(7)]
		list = append(list, bucket(i*int64(1+many/20), int64(p.draw(6)), min(max(at, 0), impl.MaxTime)))
	}
	return list
}

// bookNear is a view of few names; sometimes one of its Times is at the end of time.
func (p palette) bookNear() []impl.Entry {
	book := drawnView(p.draw, p.names, p.others, p.texts, p.draw(12))
	if len(book) > 0 && p.draw(6) == 0 {
		book[p.draw(len(book))].Time = impl.MaxTime - int64(p.draw(3))
	}
	return book
}

// fullBooks have so many Keys together, some of them in common, and let ann write all.
func (p palette) fullBooks(n, all int) [][]impl.Entry {
	books := [][]impl.Entry{}
	for _, r := range groupOfKeys(p.draw, n, p.draw(40), all-1) {
		books = append(books, bookOf(append(r.Book, acl("ann", "rw "))...))
	}
	return books
}

func latestOf(book []impl.Entry) (latest int64) {
	for _, e := range book {
		latest = max(latest, e.Time)
	}
	return latest
}

func (p palette) clockNear(book []impl.Entry) int64 {
	latest := latestOf(book)
	clocks := []int64{0, 0, 1, latest - 1, latest, latest + 1, latest + 7, int64(p.draw(20)), 999999, 1000000}
	return min(max(clocks[p.draw(len(clocks))], 0), impl.MaxTime)
}

// cluster is a right one, of 1 to 4 Nodes; each fifth has 79 or 80 Keys in all.
func (p palette) cluster() impl.Cluster {
	n := 1 + p.draw(4)
	c := impl.Cluster{Now: edgeTimes[p.draw(len(edgeTimes))]}
	if p.draw(2) == 0 {
		c.Now = int64(90 + p.draw(30))
	}
	apex := apexes[p.draw(len(apexes))]
	books := [][]impl.Entry{}
	for range n {
		books = append(books, p.bookNear())
	}
	if p.draw(5) == 0 {
		books = p.fullBooks(n, 79+p.draw(2))
	}
	logs := [][]impl.Line{nil, linesOf("a"), fullLog(3), fullLog(7), fullLog(3), linesOf("x", "")}
	for _, book := range books {
		node := impl.Node{
			Replica: replica(book, p.members[p.draw(len(p.members))]),
			Roll:    p.rollNear(c.Now),
			Buckets: p.bucketsNear(c.Now),
			Log:     logs[p.draw(len(logs))],
			Apex:    apex,
		}
		if p.draw(15) == 0 {
			node.Log = fullLog(298 + p.draw(3))
		}
		c.Nodes, c.Clock = append(c.Nodes, node), append(c.Clock, p.clockNear(book))
	}
	return c
}

func drawnClusters(seed uint32, many int) []impl.Cluster {
	p := newPalette(seed)
	list := []impl.Cluster{}
	for range many {
		list = append(list, p.cluster())
	}
	return list
}

// place is mostly that of a Node, else out of range.
func (p palette) place(c impl.Cluster) int64 {
	if p.draw(12) == 0 {
		far := places(len(c.Nodes))
		return far[p.draw(len(far))]
	}
	return int64(p.draw(len(c.Nodes)))
}

// key is mostly one that is there or may well be; else it is at the edges of what a Key may be, or past them.
func (p palette) key(c impl.Cluster, at int64) string {
	keys := []string{
		"svc/" + p.names[p.draw(len(p.names))], "svc/" + p.names[p.draw(len(p.names))], "svc/b", "svc/n" + fmt.Sprint(p.draw(30)), "acl/" + viewTokens[p.draw(len(viewTokens))],
		p.others[p.draw(len(p.others))], fmt.Sprintf("%03d", p.draw(90)), strings.Repeat("k", 40),
	}
	if at >= 0 && at < int64(len(c.Nodes)) && p.draw(3) == 0 {
		for _, e := range c.Nodes[at].Replica.Book {
			keys = append(keys, e.Key)
		}
	}
	if p.draw(12) == 0 {
		return []string{"", strings.Repeat("k", 41), strings.Repeat("k", 1000)}[p.draw(3)]
	}
	return keys[p.draw(len(keys))]
}

func (p palette) value() string {
	values := []string{"", "1", "10.0.0.1", strings.Repeat("v", 40), p.texts[p.draw(len(p.texts))], "rw ", "rw svc/", "r- svc/"}
	if p.draw(12) == 0 {
		return []string{strings.Repeat("v", 41), strings.Repeat("v", 1000)}[p.draw(2)]
	}
	return values[p.draw(len(values))]
}

func (p palette) token() string {
	switch p.draw(8) {
	case 0, 1, 2, 3:
		return "root"
	case 4:
		return noTokens[p.draw(len(noTokens))]
	case 5:
		return "ann"
	}
	return viewTokens[p.draw(len(viewTokens))]
}

// act is one of each kind, mostly such as can be done.
func (p palette) act(c impl.Cluster) impl.Act {
	a := impl.Act{Kind: []int64{1, 1, 1, 2, 2, 3, 4, 4, 4, 5}[p.draw(10)], Node: p.place(c), To: p.place(c), Token: p.token(), Value: p.value()}
	a.Key = p.key(c, a.Node)
	if p.draw(5) == 0 {
		a.Gone = true
		if p.draw(5) > 0 {
			a.Value = ""
		}
	}
	a.Query = drawnQuery(p.draw, c.Nodes[p.draw(len(c.Nodes))])
	if p.draw(3) > 0 {
		a.Query.Source = int64(p.draw(3))
	}
	if p.draw(20) == 0 {
		a.Kind = noActKinds[p.draw(len(noActKinds))]
	}
	return a
}

// script is of n Acts that go with a Cluster of the zone, whatever it has become; ticks is how many of 10 are AcTick.
func (p palette) script(c impl.Cluster, n, ticks int) []impl.Act {
	list := []impl.Act{}
	tokens, names := []string{"ann", "bob", "cid"}, []string{"a", "b", "b.c"}
	for range n {
		a := p.act(c)
		token, name := tokens[p.draw(3)], names[p.draw(3)]
		switch {
		case p.draw(10) < ticks:
			a = tickAct
		case a.Kind == impl.AcWrite && p.draw(3) == 0:
			a.Token, a.Key, a.Value = "root", "acl/"+token, []string{"rw svc/", "r- svc/", "r- svc/ -w svc/b", "-- svc/ rw svc/a", "no", ""}[p.draw(6)]
		case a.Kind == impl.AcWrite && p.draw(2) == 0:
			a.Token, a.Key, a.Value = token, "svc/"+name, fmt.Sprint(p.draw(100))
		case a.Kind == impl.AcAsk && p.draw(4) > 0:
			a.Query = impl.Query{Source: int64(p.draw(4)), Token: token, Name: name + ".zone", Type: impl.TyA, Size: 500}
		}
		if a.Gone && p.draw(8) > 0 {
			a.Value = ""
		}
		list = append(list, a)
	}
	return list
}

// countAct tells of what kind an Act was, and what came of it.
func countAct(counts map[string]int, c impl.Cluster, a impl.Act, answer impl.Answer, ok bool) {
	counts[fmt.Sprintf("%d %v", a.Kind, ok)]++
	switch {
	case a.Kind == impl.AcWrite && a.Token != "root":
		counts[fmt.Sprint("write by a token ", ok)]++
	case a.Kind == impl.AcAsk && ok:
		counts[fmt.Sprint("Code ", answer.Code)]++
	case a.Kind == impl.AcStep && ok:
		counts[fmt.Sprint("Step from ", c.Nodes[a.Node].Roll.Phase)]++
	}
	if a.Kind == impl.AcWrite && ok {
		counts[fmt.Sprint("Gone ", a.Gone)]++
		clock, latest := c.Clock[a.Node], latestOf(c.Nodes[a.Node].Replica.Book)
		switch {
		case clock > latest:
			counts["Clock above the Book"]++
		case clock < latest:
			counts["Clock below the Book"]++
		default:
			counts["Clock as the Book"]++
		}
	}
}

func askCounts(t *testing.T, counts map[string]int, least int, wants ...string) {
	t.Helper()
	for _, what := range wants {
		if counts[what] < least {
			t.Errorf("%d of %q: %v", counts[what], what, counts)
		}
	}
}

func TestClusterKnown(t *testing.T) {
	if kinds := []int64{impl.AcWrite, impl.AcTell, impl.AcTick, impl.AcAsk, impl.AcStep}; !slices.Equal(kinds, []int64{1, 2, 3, 4, 5}) {
		t.Error(kinds)
	}
	c := mustCluster(t, "zone", 3)
	c, answers := impl.Play(c, []impl.Act{
		write(0, "root", "acl/ann", "rw svc/"), write(0, "root", "svc/a", "1"), tell(0, 1), tickAct,
		write(1, "ann", "svc/a", "2"), write(2, "ann", "svc/a", "3"), askOf(0, ask("a.zone")), askOf(1, ask("a.zone")), askOf(2, ask("a.zone")),
	})
	if len(answers) != 3 || answers[0].Records[0].Text != "1" || answers[1].Records[0].Text != "2" || answers[2].Code != impl.QuNo {
		t.Fatalf("%v", answers)
	}
	if c.Now != 1 || !slices.Equal(c.Clock, []int64{2, 3, 0}) || answers[1].Seal != mustSeal(t, 9, "0 a.zone 3 5 1 2\n", 101) {
		t.Fatalf("%s", showCluster(c))
	}
	if want := bookOf(entry("acl/ann", "rw svc/", 1, 0), entry("svc/a", "2", 3, 1)); !sameBooks(c.Nodes[1].Replica.Book, want) {
		t.Fatalf("%v", c.Nodes[1].Replica.Book)
	}
	c, _, ok := impl.Happen(c, revoke(2, "root", "acl/ann"))
	if !ok || !sameBooks(c.Nodes[2].Replica.Book, []impl.Entry{goneEntry("acl/ann", 1, 2)}) || c.Clock[2] != 1 {
		t.Fatalf("%v, %s", ok, showCluster(c))
	}
	c = impl.Settled(c)
	want := bookOf(goneEntry("acl/ann", 1, 2), entry("svc/a", "2", 3, 1))
	for i, n := range c.Nodes {
		if !sameBooks(n.Replica.Book, want) {
			t.Errorf("%d: %v", i, n.Replica.Book)
		}
		if _, a, ok := impl.Happen(c, askOf(int64(i), ask("a.zone"))); !ok || a.Code != impl.QuNo {
			t.Errorf("%d: %v, %v", i, a, ok)
		}
	}
}

// Promise 18: of drawn Clusters and Acts all is as the chapter says, and a Cluster stays right.
func TestPromise18AsTheChapterSays(t *testing.T) {
	t.Parallel()
	round := newSignRound(t)
	counts := map[string]int{}
	p := newPalette(180)
	for _, c := range drawnClusters(18, 1000) {
		if !impl.ClusterOk(c) || !clusterByWords(c) {
			t.Fatalf("no Cluster: %s", showCluster(c))
		}
		for range 14 {
			a := p.act(c)
			_, answer, ok := askHappen(t, round, c, a)
			countAct(counts, c, a, answer, ok)
		}
		counts[fmt.Sprint(len(c.Nodes), " Nodes")]++
	}
	askCounts(t, counts, 20, "1 true", "1 false", "2 true", "2 false", "3 true", "3 false", "4 true", "4 false", "5 true", "5 false", "write by a token true", "write by a token false",
		"Code 0", "Code 1", "Code 2", "Code 3", "Code 4", "Code 5", "Step from 1", "Step from 2", "Step from 3", "Gone true", "Gone false", "Clock above the Book", "Clock below the Book", "Clock as the Book", "1 Nodes", "2 Nodes", "3 Nodes", "4 Nodes")
}

// Promise 18: drawn scripts, Play behind Play, from a new Cluster on: it stays right, and Play is Happen of its Acts one by one.
func TestPromise18Scripts(t *testing.T) {
	t.Parallel()
	round := newSignRound(t)
	counts := map[string]int{}
	for run := range 32 {
		p := newPalette(uint32(1800 + run))
		c := mustCluster(t, "zone", int64(1+run%4))
		for part := range 4 {
			c = askScript(t, round, c, p.script(c, 50*(part+1), []int{1, 8}[(run/4+part)%2]), counts)
		}
	}
	askCounts(t, counts, 10, "1 true", "1 false", "2 true", "2 false", "3 true", "4 true", "4 false", "5 true", "5 false", "write by a token true", "write by a token false",
		"Code 0", "Code 1", "Code 3", "Code 4", "Code 5", "Step from 1", "Step from 2", "Gone true", "Gone false")
}

// askScript plays a script at once and Act by Act, and answers what it comes to.
func askScript(t *testing.T, round signRound, c impl.Cluster, list []impl.Act, counts map[string]int) impl.Cluster {
	t.Helper()
	played, answers := impl.Play(c, list)
	if want, wantAnswers := playByWords(round, c, list); !sameClusters(played, want) || !sameAnswerLists(answers, wantAnswers) {
		t.Fatalf("Play is %.500v, %s\nnot %.500v, %s", answers, showCluster(played), wantAnswers, showCluster(want))
	}
	done := []impl.Answer{}
	for _, a := range list {
		next, answer, ok := askHappen(t, round, c, a)
		countAct(counts, c, a, answer, ok)
		if ok && a.Kind == impl.AcAsk {
			done = append(done, answer)
		}
		c = next
	}
	if !sameClusters(played, c) || !sameAnswerLists(answers, done) || !impl.ClusterOk(played) {
		t.Fatalf("Play is %.500v, %s\none by one %.500v, %s", answers, showCluster(played), done, showCluster(c))
	}
	return c
}

// Promise 18: a script that is cut in two, at each place, comes to the same.
func TestPromise18PlayInParts(t *testing.T) {
	p := newPalette(181)
	for nodes := int64(1); nodes <= 4; nodes++ {
		c := mustCluster(t, "zone", nodes)
		list := p.script(c, 120, 2)
		want, wantAnswers := impl.Play(c, list)
		for cut := range len(list) + 1 {
			first, answers := impl.Play(c, list[:cut])
			second, more := impl.Play(first, list[cut:])
			if !sameClusters(second, want) || !sameAnswerLists(append(answers, more...), wantAnswers) {
				t.Fatalf("cut at %d of %d: %s\nnot %s", cut, len(list), showCluster(second), showCluster(want))
			}
		}
	}
}

// A heardOf is all Entries that a Node ever wrote or was told of, directly or by way of others; nothing is ever taken out.
type heardOf map[impl.Entry]int

// askNewest wants of each Key the newest one of all that was heard of, and of a Token just the rules of that.
func (h heardOf) askNewest(t *testing.T, book []impl.Entry, tokens ...string) {
	t.Helper()
	newest := map[string]impl.Entry{}
	for e := range h {
		if other, known := newest[e.Key]; !known || newerByWords(e, other) {
			newest[e.Key] = e
		}
	}
	if want := bookOf(slices.Collect(maps.Values(newest))...); !sameBooks(book, want) {
		t.Fatalf("the Book is %v, not %v", book, want)
	}
	for _, token := range tokens {
		e, known := newest["acl/"+token]
		want, wantOk := readByWords(e.Value)
		wantOk = wantOk && known && !e.Gone
		if !wantOk {
			want = nil
		}
		if rules, ok := impl.RulesOf(book, token); ok != wantOk || !sameRules(rules, want) {
			t.Fatalf("%s: %v, %v, not those of %v", token, rules, ok, e)
		}
	}
}

// Promise 18: over drawn scripts, each Node has just the newest rules of all that it was told of, and no older word that is told later brings old ones back.
func TestPromise18NewestRules(t *testing.T) {
	t.Parallel()
	back := 0
	for run := range 24 {
		p := newPalette(uint32(1850 + run))
		c := mustCluster(t, "zone", int64(2+run%3))
		heard := []heardOf{}
		for range c.Nodes {
			heard = append(heard, heardOf{})
		}
		for _, a := range p.script(c, 200, 0) {
			next, _, ok := impl.Happen(c, a)
			switch {
			case ok && a.Kind == impl.AcWrite:
				e, _ := entryOf(next.Nodes[a.Node].Replica.Book, a.Key)
				heard[a.Node][e] = 1
			case ok && a.Kind == impl.AcTell:
				maps.Copy(heard[a.To], heard[a.Node])
			}
			for i, n := range next.Nodes {
				heard[i].askNewest(t, n.Replica.Book, "ann", "bob", "cid")
				for _, e := range n.Replica.Book {
					if was, there := entryOf(c.Nodes[i].Replica.Book, e.Key); there && newerByWords(was, e) {
						back++
					}
				}
			}
			c = next
		}
	}
	if back > 0 {
		t.Errorf("%d old ones came back", back)
	}
}

// newRules are written in place of "rw svc/": Gone, others, none, and such as can't be read.
func newRules(node int64) map[string]impl.Act {
	return map[string]impl.Act{
		"Gone":       revoke(node, "root", "acl/ann"),
		"other":      write(node, "root", "acl/ann", "r- svc/b"),
		"none":       write(node, "root", "acl/ann", ""),
		"unreadable": write(node, "root", "acl/ann", "rw"),
	}
}

// eachScript goes through all scripts of so many AcTell among n Nodes.
func eachScript(n, steps int, ask func([]impl.Act)) {
	list := make([]impl.Act, steps)
	var next func(at int)
	next = func(at int) {
		if at == steps {
			ask(list)
			return
		}
		for from := range n {
			for to := range n {
				if from != to {
					list[at] = tell(int64(from), int64(to))
					next(at + 1)
				}
			}
		}
	}
	next(0)
}

// Promise 18: what is revoked at one Node is revoked just at those that are told of it, directly or by way of others, whoever tells whom in whatever order; who still has the old rules brings them back to nobody.
func TestPromise18RevokedInEachOrder(t *testing.T) {
	t.Parallel()
	for n, steps := range map[int]int{2: 4, 3: 4, 4: 3} {
		old := clusterOf(slices.Repeat([][]impl.Entry{{acl("ann", "rw svc/"), svc("a", "1"), svc("b", "2")}}, n)...)
		for what, act := range newRules(int64(n - 1)) {
			if n == 4 && what != "Gone" {
				continue
			}
			c := mustHappen(t, old, act)
			eachScript(n, steps, func(list []impl.Act) {
				heard := make([]bool, n)
				heard[n-1] = true
				for _, a := range list {
					heard[a.To] = heard[a.To] || heard[a.Node]
				}
				told, answers := impl.Play(c, list)
				if len(answers) > 0 {
					t.Fatalf("%v", answers)
				}
				for i, is := range heard {
					askRevoked(t, told, int64(i), what, is)
				}
			})
		}
	}
}

// askRevoked asks whether ann has just the newer rules at a Node, or still the old ones.
func askRevoked(t *testing.T, c impl.Cluster, at int64, what string, is bool) {
	t.Helper()
	rules, ok := impl.RulesOf(c.Nodes[at].Replica.Book, "ann")
	want, wantOk, code := []impl.Rule{rule("rw", "svc/")}, true, int64(impl.QuOk)
	if is {
		want, wantOk, code = nil, false, impl.QuNo
		switch what {
		case "none":
			wantOk, code = true, impl.QuNone
		case "other":
			want, wantOk, code = []impl.Rule{rule("r-", "svc/b")}, true, impl.QuNone
		}
	}
	if ok != wantOk || !sameRules(rules, want) {
		t.Fatalf("%s, %v: at %d the rules are %v, %v", what, is, at, rules, ok)
	}
	if _, a, done := impl.Happen(c, askOf(at, ask("a.zone"))); !done || a.Code != code {
		t.Fatalf("%s, %v: at %d it is answered %v", what, is, at, a)
	}
	if _, _, done := impl.Happen(c, write(at, "ann", "svc/a", "9")); done == is {
		t.Fatalf("%s, %v: at %d a write is %v", what, is, at, done)
	}
}

// Promise 18: an older word of rules stays older, told before or behind the newer one, by the Node that wrote it or by way of others.
func TestPromise18OlderWords(t *testing.T) {
	for _, act := range newRules(0) {
		c := clusterOf(nil, nil, nil, nil)
		c.Clock = []int64{9, 3, 8, 2}
		c = mustHappen(t, c, act, write(1, "root", "acl/ann", "rw svc/"), write(2, "root", "acl/ann", "rw "), write(3, "root", "acl/ann", "-w svc/a"))
		newest := c.Nodes[0].Replica.Book
		for _, list := range [][]impl.Act{
			{tell(0, 3), tell(1, 3), tell(2, 3)},
			{tell(1, 3), tell(0, 3), tell(2, 3)},
			{tell(2, 3), tell(1, 3), tell(0, 3)},
			{tell(0, 1), tell(1, 2), tell(2, 3), tell(3, 0)},
			{tell(1, 2), tell(2, 0), tell(0, 3), tell(1, 3)},
			{tell(1, 0), tell(2, 0), tell(3, 0), tell(0, 3), tell(2, 3)},
		} {
			told, _ := impl.Play(c, list)
			for _, at := range []int{0, 3} {
				if !sameBooks(told.Nodes[at].Replica.Book, newest) {
					t.Errorf("%v: at %d it is %v, not %v", list, at, told.Nodes[at].Replica.Book, newest)
				}
			}
		}
	}
}

// Promise 18: whoever knows some rules can revoke them, however far its own Clock is behind.
func TestPromise18WhoWasToldCanRevoke(t *testing.T) {
	for _, time := range []int64{1, 5, 77, 999998, 999999} {
		for clock := range int64(3) {
			c := clusterOf([]impl.Entry{entry("acl/ann", "rw svc/", time, 0)}, nil)
			c.Clock[1] = clock
			c = mustHappen(t, c, tell(0, 1), revoke(1, "root", "acl/ann"), tell(0, 1), tell(1, 0), tell(0, 1))
			for i, n := range c.Nodes {
				if want := max(time, clock) + 1; !sameBooks(n.Replica.Book, []impl.Entry{goneEntry("acl/ann", want, 1)}) {
					t.Errorf("at %d: %v", i, n.Replica.Book)
				}
			}
		}
	}
}

// Promise 18: behind Settled all are Agreed, on the Whole of what they were; all else stays, and each Node answers alike.
func TestPromise18Settled(t *testing.T) {
	t.Parallel()
	p := newPalette(182)
	counts := map[string]int{}
	clusters := drawnClusters(183, 250)
	for n := int64(1); n <= 4; n++ {
		c := mustCluster(t, "zone", n)
		played, _ := impl.Play(c, p.script(c, 200, 1))
		clusters = append(clusters, c, played)
	}
	for _, c := range clusters {
		settled := impl.Settled(c)
		if !impl.ClusterOk(settled) || !sameClusters(settled, settledByWords(c)) {
			t.Fatalf("Settled is %s\nof %s", showCluster(settled), showCluster(c))
		}
		group, whole := groupOf(settled), impl.Whole(groupOf(c))
		if !impl.Agreed(group) || !sameReplicas(group[0], whole) || !sameGroups(group, impl.Around(groupOf(c))) {
			t.Fatalf("not Agreed on the Whole: %s", showCluster(settled))
		}
		if again := impl.Settled(settled); !sameClusters(again, settled) {
			t.Fatalf("once more it is %s\nnot %s", showCluster(again), showCluster(settled))
		}
		for i := range group {
			settled.Nodes[i].Replica = c.Nodes[i].Replica
		}
		if !sameClusters(settled, c) {
			t.Fatalf("more than the Replicas changed: %s\nof %s", showCluster(settled), showCluster(c))
		}
		if len(c.Nodes) > 1 && !impl.Agreed(groupOf(c)) {
			counts["were not Agreed"]++
		}
		askAlike(t, p, impl.Settled(c), counts)
	}
	askCounts(t, counts, 30, "Code 0", "Code 1", "Code 2", "Code 3", "Code 4", "were not Agreed")
}

// askAlike asks each Node the same, with the Buckets and the Roll of the first one.
func askAlike(t *testing.T, p palette, c impl.Cluster, counts map[string]int) {
	t.Helper()
	for i := range c.Nodes {
		c.Nodes[i].Roll, c.Nodes[i].Buckets = c.Nodes[0].Roll, c.Nodes[0].Buckets
	}
	for range 6 {
		q := drawnQuery(p.draw, c.Nodes[0])
		_, first, ok := impl.Happen(c, askOf(0, q))
		counts[fmt.Sprint("Code ", first.Code)]++
		for i := range c.Nodes {
			if _, a, is := impl.Happen(c, askOf(int64(i), q)); !ok || !is || !sameAnswers(a, first) {
				t.Fatalf("%v: %v at 0, %v at %d", q, first, a, i)
			}
		}
	}
}

// lettingBooks tell by which rules ann may write svc/a: what they are, and whether they let it.
func lettingBooks() map[string]bool {
	return map[string]bool{
		"rw svc/": true, "-w svc/": true, "rw svc/a": true, "-w ": true, "r-  -w svc/a": true, "-- svc/ -w svc/a": true, "r- svc/ rw svc/a -- svc/ab": true,
		"r- svc/": false, "-- svc/": false, "r- ": false, "": false, "rw svc/b": false, "rw svc/aa": false, "rw acl/": false, "rw svc/ r- svc/a": false, "-w  -- svc/a": false,
		"rw": false, "rw svc/ ": false, " rw svc/": false, "wr svc/": false, "rw svc/ rw svc/": false, "root": false,
	}
}

// AcWrite: root may always; a Token where a rule in the Book of this very Node lets it write the Key, not where it may read alone, and not where there are no rules that can be read.
func TestWriteByToken(t *testing.T) {
	round := newSignRound(t)
	yes, no := 0, 0
	for value, lets := range lettingBooks() {
		book := bookOf(acl("ann", value))
		for at := range int64(3) {
			books := make([][]impl.Entry, 3)
			books[at] = book
			c := clusterOf(books...)
			next, _, ok := askHappen(t, round, c, write(at, "ann", "svc/a", "1"))
			if ok != lets {
				t.Errorf("%q at %d: %v", value, at, ok)
			}
			if ok {
				yes++
				if e, _ := entryOf(next.Nodes[at].Replica.Book, "svc/a"); e != entry("svc/a", "1", 6, at) {
					t.Errorf("%q: %v", value, e)
				}
			} else {
				no++
			}
			// What another Node knows of a Token lets it nothing here.
			askRefused(t, value, c, write((at+1)%3, "ann", "svc/a", "1"))
			if _, _, ok := askHappen(t, round, c, write(at, "root", "svc/a", "1")); !ok {
				t.Errorf("%q: root may not", value)
			}
		}
	}
	if yes < 20 || no < 40 {
		t.Errorf("%d may, %d may not", yes, no)
	}
	for _, token := range append([]string{"Root", "root ", " root", "rot", "roots", "ROOT", "\x00"}, noTokens...) {
		askRefused(t, token, clusterOf(nil), write(0, token, "svc/a", "1"))
		askRefused(t, token, clusterOf([]impl.Entry{acl("root", "rw ")}), write(0, token, "svc/a", "1"))
	}
	askRefused(t, "Gone", clusterOf([]impl.Entry{goneEntry("acl/ann", 5, 3)}), write(0, "ann", "svc/a", "1"))
	askRefused(t, "another's", clusterOf([]impl.Entry{acl("bob", "rw ")}), write(0, "ann", "svc/a", "1"))
}

// AcWrite by root needs no rules, and none keep it from writing; it has no other rights: asking goes by its rules.
func TestWriteByRoot(t *testing.T) {
	round := newSignRound(t)
	for _, book := range [][]impl.Entry{nil, {acl("root", "")}, {acl("root", "-- ")}, {acl("root", "r- ")}, {acl("root", "no rules")}, {goneEntry("acl/root", 5, 3)}} {
		for _, key := range []string{"svc/a", "acl/ann", "acl/root", "a", "\x00", "svc/"} {
			c := clusterOf(book)
			if _, _, ok := askHappen(t, round, c, write(0, "root", key, "rw ")); !ok {
				t.Errorf("%v: %q", book, key)
			}
			q := ask("zone")
			q.Token, q.Type = "root", impl.TyNs
			_, a, ok := askHappen(t, round, c, askOf(0, q))
			if _, rules := impl.RulesOf(book, "root"); !ok || (a.Code == impl.QuNo) == rules {
				t.Errorf("%v: %v", book, a)
			}
		}
	}
}

// A Token may write the Keys that its rules let it write, also the rules of others and its own, and Gone.
func TestWriteKeysByToken(t *testing.T) {
	round := newSignRound(t)
	c := clusterOf([]impl.Entry{acl("ann", "-w acl/ r- acl/bob -w svc/ -- svc/b"), svc("a", "1"), svc("b", "1")})
	for key, lets := range map[string]bool{"acl/ann": true, "acl/cid": true, "acl/bob": false, "acl/bobby": false, "svc/a": true, "svc/": true, "svc/b": false, "svc/bb": false, "svc": false, "acl": false, "a": false, "": false, "svc/" + strings.Repeat("c", 36): true, "svc/" + strings.Repeat("c", 37): false} {
		for _, a := range []impl.Act{write(0, "ann", key, "x"), write(0, "ann", key, ""), revoke(0, "ann", key)} {
			next, _, ok := askHappen(t, round, c, a)
			if ok != lets {
				t.Errorf("%q: %v", key, ok)
			}
			if e, _ := entryOf(next.Nodes[0].Replica.Book, key); ok && (e.Gone != a.Gone || e.Value != a.Value) {
				t.Errorf("%q: %v", key, e)
			}
		}
	}
	c = mustHappen(t, c, revoke(0, "ann", "acl/ann"))
	askRefused(t, "its own rules are Gone", c, write(0, "ann", "acl/ann", "rw "))
}

// clockCases are Clocks and Times, and what the Clock is behind a write; 0 where there is no more.
func clockCases() []struct {
	clock int64
	times []int64
	want  int64
} {
	return []struct {
		clock int64
		times []int64
		want  int64
	}{
		{0, nil, 1}, {1, nil, 2}, {7, nil, 8}, {0, []int64{1}, 2}, {0, []int64{9}, 10}, {12, []int64{9}, 13}, {9, []int64{9}, 10}, {8, []int64{9}, 10}, {10, []int64{9}, 11},
		{5, []int64{9, 3, 4}, 10}, {5, []int64{3, 9, 4}, 10}, {5, []int64{3, 4, 9}, 10}, {5, []int64{3, 4, 5}, 6}, {6, []int64{3, 4, 5}, 7},
		{999998, []int64{3}, 999999}, {999999, []int64{3}, 1000000}, {1000000, []int64{3}, 0}, {1000000, nil, 0}, {0, []int64{1000000}, 0}, {0, []int64{3, 1000000, 4}, 0},
		{0, []int64{999999}, 1000000}, {999999, []int64{999999}, 1000000}, {1000000, []int64{1000000}, 0}, {999999, []int64{1000000}, 0}, {1000000, []int64{999999}, 0},
	}
}

// AcWrite: the Clock is 1 more than the greater one of it and all Times of the Book, whatever the other Nodes have; that is the Time of the Entry.
func TestWriteClock(t *testing.T) {
	round := newSignRound(t)
	for _, one := range clockCases() {
		for at := range int64(4) {
			other := []impl.Entry{entry("other", "1", 777, 0)}
			books := [][]impl.Entry{other, other, other, other}
			books[at] = nil
			for i, time := range one.times {
				e := entry(fmt.Sprint("key", i), "1", time, int64(7-i))
				if i%2 == 1 {
					e.Gone, e.Value = true, ""
				}
				books[at] = append(books[at], e)
			}
			c := clusterOf(books...)
			c.Clock = []int64{500, 0, 1000000, 3}
			c.Clock[at] = one.clock
			for _, a := range []impl.Act{write(at, "root", "key0", "2"), write(at, "root", "new", "2"), revoke(at, "root", "key2")} {
				next, _, ok := askHappen(t, round, c, a)
				if ok != (one.want > 0) {
					t.Fatalf("%v at %d: %v", one, at, ok)
				}
				if !ok {
					askRefused(t, fmt.Sprint(one), c, a)
					continue
				}
				want := cloneCluster(c)
				want.Clock[at] = one.want
				e := impl.Entry{Key: a.Key, Value: a.Value, Time: one.want, Node: at, Gone: a.Gone}
				want.Nodes[at].Replica.Book = bookOf(append(slices.Clone(books[at]), e)...)
				if !sameClusters(next, want) {
					t.Fatalf("%v at %d: %s\nnot %s", one, at, showCluster(next), showCluster(want))
				}
			}
		}
	}
}

// Up to MaxTime each write has a Time of its own, and at MaxTime there is no more, not even of what is there.
func TestWriteUpToMaxTime(t *testing.T) {
	c := clusterOf(nil, nil)
	c.Clock[1] = 999995
	for want := int64(999996); want <= 1000000; want++ {
		c = mustHappen(t, c, write(1, "root", "svc/a", fmt.Sprint(want)))
		if c.Clock[1] != want || !sameBooks(c.Nodes[1].Replica.Book, []impl.Entry{entry("svc/a", fmt.Sprint(want), want, 1)}) {
			t.Fatalf("%s", showCluster(c))
		}
	}
	for _, a := range []impl.Act{write(1, "root", "svc/a", "9"), write(1, "root", "b", "9"), revoke(1, "root", "svc/a")} {
		askRefused(t, "at MaxTime", c, a)
	}
	c = mustHappen(t, c, write(0, "root", "b", "1"), tell(1, 0))
	askRefused(t, "told of MaxTime", c, write(0, "root", "b", "2"))
	if c.Clock[0] != 1 {
		t.Errorf("%v", c.Clock)
	}
}

// Keys of 1 to 40 bytes and Values of at most 40, none where it is Gone; any bytes will do.
func TestWriteKeysAndValues(t *testing.T) {
	round := newSignRound(t)
	c := clusterOf([]impl.Entry{svc("a", "1")}, []impl.Entry{svc("a", "2"), svc("b", "2")})
	asked := map[bool]int{}
	for _, key := range append(oddKeys(), "", "svc/a", strings.Repeat("k", 39), strings.Repeat("k", 40), strings.Repeat("k", 41), strings.Repeat("é", 21), strings.Repeat("k", 1<<16)) {
		for _, value := range []string{"", "v", "\x00", "\xff", strings.Repeat("v", 39), strings.Repeat("v", 40), strings.Repeat("v", 41), strings.Repeat("é", 21), strings.Repeat("v", 1<<16)} {
			for _, gone := range []bool{false, true} {
				a := write(1, "root", key, value)
				a.Gone = gone
				want := len(key) >= 1 && len(key) <= 40 && len(value) <= 40 && (!gone || value == "")
				_, _, ok := askHappen(t, round, c, a)
				if ok != want {
					t.Errorf("Key %.50q, Value %.50q, Gone %v: %v", key, value, gone, ok)
				}
				asked[ok]++
			}
		}
	}
	if asked[true] < 100 || asked[false] < 100 {
		t.Error(asked)
	}
}

// A write that is done changes the Book and the Clock of its Node, and nothing else; To and the Query do not count.
func TestWriteTouchesNothingElse(t *testing.T) {
	for _, c := range drawnClusters(184, 80) {
		for at := range c.Nodes {
			a := write(int64(at), "root", "svc/a", "9")
			next, _, ok := impl.Happen(c, a)
			for _, to := range farPlaces {
				a.To, a.Query = to, ask("a.zone")
				if again, _, is := impl.Happen(c, a); is != ok || !sameClusters(again, next) {
					t.Fatalf("To %d: %v, %s", to, is, showCluster(again))
				}
			}
			if !ok {
				continue
			}
			next.Nodes[at].Replica.Book, next.Clock[at] = c.Nodes[at].Replica.Book, c.Clock[at]
			if !sameClusters(next, c) {
				t.Fatalf("%s\nnot %s", showCluster(next), showCluster(c))
			}
		}
	}
}

// A new Key has room as long as the Keys of all Nodes together are at most MaxBook, whichever Node has them; one that is there anywhere always has.
func TestWriteWhereThereIsNoRoom(t *testing.T) {
	round := newSignRound(t)
	draw := drawFrom(185)
	for n := 1; n <= 4; n++ {
		for _, all := range []int{0, 1, 40, 78, 79, 80} {
			for _, common := range []int{0, 3, 39, 80} {
				if common > all {
					continue
				}
				books := [][]impl.Entry{}
				for _, r := range groupOfKeys(draw, n, common, all) {
					books = append(books, r.Book)
				}
				c := clusterOf(books...)
				for at := range int64(n) {
					for _, key := range []string{"new", "\x00", "\xff", "03"} {
						for _, a := range []impl.Act{write(at, "root", key, "1"), revoke(at, "root", key)} {
							if _, _, ok := askHappen(t, round, c, a); ok != (all < 80) {
								t.Fatalf("%d of %d Keys, %d in common: a new one is %v", n, all, common, ok)
							}
						}
					}
					for _, i := range []int{0, all / 2, all - 1} {
						if i < 0 {
							continue
						}
						key := numbered(i, 1)[0]
						if _, _, ok := askHappen(t, round, c, write(at, "root", key, "1")); !ok {
							t.Fatalf("%d of %d Keys, %d in common: %q is not written", n, all, common, key)
						}
					}
				}
			}
		}
	}
}

// The last room is for one Key: at whichever Node it is written, it has none for another, but for itself at all others.
func TestWriteTheLastRoom(t *testing.T) {
	c := clusterOf(manyEntries(79), nil, []impl.Entry{svc("a", "1")})
	for i := range c.Nodes[0].Replica.Book {
		c.Nodes[0].Replica.Book[i].Time = 9
	}
	for at := range int64(3) {
		askRefused(t, "80 are there", c, write(at, "root", "svc/b", "1"))
		mustHappen(t, c, write(at, "root", "svc/a", "2"))
	}
	c.Nodes[2].Replica.Book = nil
	for first := range int64(3) {
		one := mustHappen(t, c, write(first, "root", "svc/b", "1"))
		for at := range int64(3) {
			askRefused(t, "80 are there", one, write(at, "root", "svc/c", "1"))
			askRefused(t, "80 are there", one, revoke(at, "root", "svc/c"))
			two := mustHappen(t, one, write(at, "root", "svc/b", "2"))
			if got := impl.Settled(two); len(got.Nodes[0].Replica.Book) != 80 || !impl.ClusterOk(got) {
				t.Fatalf("%s", showCluster(got))
			}
		}
		// What is Gone keeps its room: it must be told.
		gone := mustHappen(t, one, revoke(first, "root", "svc/b"))
		askRefused(t, "Gone, but there", gone, write(first, "root", "svc/c", "1"))
	}
}

// A Node that is not there writes, asks and steps nothing.
func TestActsAtNoNode(t *testing.T) {
	for n := 1; n <= 4; n++ {
		c := clusterOf(slices.Repeat([][]impl.Entry{{acl("ann", "rw "), svc("a", "1")}}, n)...)
		c.Now = 500
		for _, at := range places(n) {
			for what, a := range map[string]impl.Act{"write": write(at, "root", "svc/a", "2"), "write by ann": write(at, "ann", "svc/a", "2"), "ask": askOf(at, ask("a.zone")), "step": stepOf(at)} {
				if at >= 0 && at < int64(n) {
					mustHappen(t, c, a)
				} else {
					askRefused(t, what, c, a)
				}
			}
		}
	}
}

// AcTell: from each to each; not to itself, nor where one is out of range; told twice is done twice, and comes to the same.
func TestTellEachToEach(t *testing.T) {
	round := newSignRound(t)
	done, not := 0, 0
	for _, c := range drawnClusters(186, 60) {
		n := int64(len(c.Nodes))
		for _, from := range places(int(n)) {
			for _, to := range places(int(n)) {
				next, _, ok := askHappen(t, round, c, tell(from, to))
				if in := from >= 0 && from < n && to >= 0 && to < n && from != to; ok != in {
					t.Fatalf("from %d to %d of %d: %v", from, to, n, ok)
				}
				if !ok {
					askRefused(t, fmt.Sprintf("from %d to %d", from, to), c, tell(from, to))
					not++
					continue
				}
				done++
				askTellDone(t, c, next, from, to)
			}
		}
	}
	if done < 100 || not < 1000 {
		t.Errorf("%d are done, %d not", done, not)
	}
}

// askTellDone wants that the Replica that was told is another, by Joined and Merged, and nothing else.
func askTellDone(t *testing.T, c, next impl.Cluster, from, to int64) {
	t.Helper()
	if again := mustHappen(t, next, tell(from, to)); !sameClusters(again, next) {
		t.Fatalf("from %d to %d, once more: %s\nnot %s", from, to, showCluster(again), showCluster(next))
	}
	want := cloneCluster(c)
	book, ok := impl.Joined(c.Nodes[from].Replica.Book, c.Nodes[to].Replica.Book)
	want.Nodes[to].Replica = replica(book, impl.Merged(c.Nodes[from].Replica.Members, c.Nodes[to].Replica.Members))
	if !ok || !sameClusters(next, want) {
		t.Fatalf("from %d to %d: %s\nnot %s", from, to, showCluster(next), showCluster(want))
	}
	if !knowsAll(next.Nodes[to].Replica, c.Nodes[from].Replica) || !knowsAll(next.Nodes[to].Replica, c.Nodes[to].Replica) {
		t.Fatalf("from %d to %d: it knows less", from, to)
	}
}

// AcTick: 1 more, up to MaxTime, and no more there. Nothing but Now changes, and no Node or Token is needed.
func TestTick(t *testing.T) {
	for _, c := range drawnClusters(187, 40) {
		for _, now := range edgeTimes {
			c.Now = now
			for _, at := range append(places(len(c.Nodes)), 0) {
				a := impl.Act{Kind: impl.AcTick, Node: at, To: -at, Token: "nobody", Query: impl.Query{Size: -1}}
				if now == 1000000 {
					askRefused(t, "at MaxTime", c, a)
					continue
				}
				want := cloneCluster(c)
				want.Now = now + 1
				if next, answer, ok := impl.Happen(c, a); !ok || !sameClusters(next, want) || !sameAnswers(answer, impl.Answer{}) {
					t.Fatalf("at %d, Node %d: %v, %s", now, at, ok, showCluster(next))
				}
			}
		}
	}
	c := mustCluster(t, "zone", 1)
	c.Now = 999990
	if c, _ = impl.Play(c, slices.Repeat([]impl.Act{tickAct}, 30)); c.Now != 1000000 {
		t.Errorf("Now is %d", c.Now)
	}
}

// AcAsk at each Node: it is that of Respond at Now, and so is the Answer, also where it is QuStill; no other Node is touched.
func TestAskEachNode(t *testing.T) {
	p := newPalette(188)
	counts := map[string]int{}
	for _, c := range drawnClusters(189, 120) {
		for at := range c.Nodes {
			for range 6 {
				q := p.act(c).Query
				next, answer, ok := impl.Happen(c, askOf(int64(at), q))
				node, want := impl.Respond(c.Nodes[at], q, c.Now)
				if !ok || !sameAnswers(answer, want) || !sameNodes(next.Nodes[at], node) {
					t.Fatalf("%v at %d: %v, %v, not %v", q, at, ok, answer, want)
				}
				next.Nodes[at] = c.Nodes[at]
				if !sameClusters(next, c) {
					t.Fatalf("%v at %d touches more", q, at)
				}
				counts[fmt.Sprint("Code ", answer.Code)]++
			}
		}
	}
	askCounts(t, counts, 20, "Code 0", "Code 1", "Code 2", "Code 3", "Code 4", "Code 5")
}

// AcAsk goes by the Token of the Query, whatever the Token, the Key and the Value of the Act are.
func TestAskByTheTokenOfTheQuery(t *testing.T) {
	c := clusterOf([]impl.Entry{acl("ann", "r- svc/"), acl("bob", "rw svc/b"), svc("a", "1")}, nil)
	for token, code := range map[string]int64{"ann": impl.QuOk, "bob": impl.QuNone, "root": impl.QuNo, "": impl.QuNo} {
		for _, other := range []string{"ann", "bob", "root", "", "nobody"} {
			a := askOf(0, ask("a.zone"))
			a.Query.Token, a.Token, a.Key, a.Value, a.Gone, a.To = token, other, "svc/a", "9", true, 9
			if _, answer, ok := impl.Happen(c, a); !ok || answer.Code != code {
				t.Errorf("%q, the Act by %q: %v, %v", token, other, ok, answer)
			}
		}
	}
}

// From each Source come MaxLeft Answers at each Node, and then QuStill, which is done, too: Play tells it.
func TestAskUntilStill(t *testing.T) {
	c := clusterOf([]impl.Entry{acl("ann", "r- svc/"), svc("a", "1")}, []impl.Entry{acl("ann", "r- svc/"), svc("a", "2")})
	list := slices.Repeat([]impl.Act{askOf(1, ask("a.zone"))}, 8)
	list = append(list, askOf(0, ask("a.zone")), tickAct, askOf(1, ask("a.zone")), askOf(1, ask("a.zone")), askOf(2, ask("a.zone")), askOf(-1, ask("a.zone")))
	next, answers := impl.Play(c, list)
	codes := []int64{}
	for _, a := range answers {
		codes = append(codes, a.Code)
		if a.Code == impl.QuStill && !sameAnswers(a, impl.Answer{Code: impl.QuStill}) {
			t.Errorf("%v", a)
		}
	}
	if want := []int64{0, 0, 0, 0, 0, 5, 5, 5, 0, 0, 5}; !slices.Equal(codes, want) {
		t.Errorf("%v, not %v", codes, want)
	}
	if len(next.Nodes[1].Log) != 6 || len(next.Nodes[0].Log) != 1 {
		t.Errorf("%s", showCluster(next))
	}
}

// AcStep: not before its time, just at it and behind it; 100 is fresh, which counts in RoStable alone.
func TestStepOfANode(t *testing.T) {
	round := newSignRound(t)
	counts := map[string]int{}
	for _, secrets := range [][2]int64{{7, 8}, {7, 100}, {100, 8}, {100, 100}, {1, 2548}} {
		for _, phase := range []int64{1, 2, 3} {
			for _, fresh := range []int64{9, 100, 7} {
				for _, since := range []int64{0, 400, 999899, 999900, 999901, 1000000} {
					for _, wait := range []int64{-1, 0, 1, 98, 99, 100, 101, 250} {
						c := clusterOf(nil, nil, nil)
						if c.Now = since + wait; c.Now < 0 || c.Now > 1000000 {
							continue
						}
						c.Nodes[1].Roll = rollOf(phase, secrets[0], secrets[1], fresh, since)
						if phase == 1 {
							c.Nodes[1].Roll.New = 0
						}
						next, _, ok := askHappen(t, round, c, stepOf(1))
						want := wait >= 100 && (phase > 1 || secrets[0] != 100 && secrets[1] != 100)
						if ok != want {
							t.Fatalf("%v at %d: %v", c.Nodes[1].Roll, c.Now, ok)
						}
						counts[fmt.Sprint(phase, ok)]++
						roll, _ := impl.Step(c.Nodes[1].Roll, c.Now, 100)
						c.Nodes[1].Roll = roll
						if !sameClusters(next, c) {
							t.Fatalf("%s\nnot %s", showCluster(next), showCluster(c))
						}
					}
				}
			}
		}
	}
	askCounts(t, counts, 20, "1 true", "2 true", "3 true", "1 false", "2 false", "3 false")
}

// AcStep through all Phases and around, of each Node for itself; where 100 became Old, there is nothing fresh any more.
func TestStepsOfANewCluster(t *testing.T) {
	c := mustCluster(t, "zone", 2)
	wait := func(ticks int) { c, _ = impl.Play(c, slices.Repeat([]impl.Act{tickAct}, ticks)) }
	for i, want := range []impl.Roll{rollOf(2, 7, 9, 100, 100), rollOf(3, 7, 9, 100, 200), rollOf(1, 7, 100, 0, 300)} {
		wait(99)
		askRefused(t, fmt.Sprint("too early ", i), c, stepOf(1))
		wait(1)
		c = mustHappen(t, c, stepOf(1))
		if c.Nodes[1].Roll != want || c.Nodes[0].Roll != rollOf(1, 7, 8, 0, 0) {
			t.Fatalf("%v, %v, not %v", c.Nodes[0].Roll, c.Nodes[1].Roll, want)
		}
		askRefused(t, fmt.Sprint("at once again ", i), c, stepOf(1))
	}
	wait(150)
	askRefused(t, "100 is Old", c, stepOf(1))
	c = mustHappen(t, c, stepOf(0))
	if c.Nodes[0].Roll != rollOf(2, 7, 8, 100, 450) {
		t.Errorf("%v", c.Nodes[0].Roll)
	}
}

// Promises 17 and 18: whatever is told and stepped, what a Node of a Cluster answers is Secure by its own Deed, and by the ds of any other Node, as all have one Main.
func TestPromise18AnswersAreSecure(t *testing.T) {
	c := mustCluster(t, "zone", 4)
	c = mustHappen(t, c, write(0, "root", "acl/ann", "r- svc/"), write(1, "root", "svc/a", "1"))
	c = impl.Settled(c)
	first, _ := impl.DeedOf(c.Nodes[0], impl.MaxTime)
	for round := range 24 {
		c, _ = impl.Play(c, slices.Repeat([]impl.Act{tickAct}, 25))
		c, _, _ = impl.Happen(c, stepOf(int64(round%4)))
		for at := range int64(4) {
			next, a, ok := impl.Happen(c, askOf(at, ask("a.zone")))
			d, _ := impl.DeedOf(c.Nodes[at], impl.MaxTime)
			if !ok || a.Code != impl.QuOk || !impl.Secure(impl.DsOf(first), d, a, c.Now) {
				t.Fatalf("at %d, %d: %v, %v", c.Now, at, ok, a)
			}
			c = next
		}
	}
}

// A Kind that is none of the five does nothing, whatever else the Act says.
func TestNoActKind(t *testing.T) {
	c := clusterOf([]impl.Entry{acl("ann", "rw "), svc("a", "1")}, nil)
	c.Now = 500
	for _, kind := range noActKinds {
		for _, a := range []impl.Act{write(0, "root", "svc/a", "2"), tell(0, 1), tickAct, askOf(0, ask("a.zone")), stepOf(0), {}} {
			mustHappen(t, c, tell(0, 1), tickAct)
			a.Kind = kind
			askRefused(t, fmt.Sprint("Kind ", kind), c, a)
			if next, answers := impl.Play(c, []impl.Act{a}); !sameClusters(next, c) || len(answers) > 0 {
				t.Fatalf("Kind %d: Play is %v, %s", kind, answers, showCluster(next))
			}
		}
	}
}

func TestNewCluster(t *testing.T) {
	for _, apex := range append(edgeNames()[1:], apexes...) {
		for n := int64(1); n <= 4; n++ {
			c := mustCluster(t, apex, n)
			want := impl.Cluster{Clock: make([]int64, n)}
			for i := range n {
				want.Nodes = append(want.Nodes, impl.Node{Roll: rollOf(1, 7, 8+i, 0, 0), Apex: apex})
			}
			if !sameClusters(c, want) || !clusterByWords(c) {
				t.Fatalf("NewCluster(%q, %d) is %s", apex, n, showCluster(c))
			}
		}
	}
	refuse := func(apex string, n int64) {
		t.Helper()
		if c, ok := impl.NewCluster(apex, n); ok || !sameClusters(c, impl.Cluster{}) {
			t.Errorf("NewCluster(%.70q, %d) is %s, %v", apex, n, showCluster(c), ok)
		}
	}
	for _, apex := range append(noNames(), "") {
		for n := int64(-1); n <= 5; n++ {
			refuse(apex, n)
		}
	}
	for _, n := range noCounts {
		refuse("zone", n)
		refuse("a.b", n)
		refuse("", n)
	}
}

// plainCluster is of n Nodes, with something in each of their lists.
func plainCluster(n int) impl.Cluster {
	c := impl.Cluster{Now: 50}
	for i := range n {
		node := plainNode()
		node.Roll.Old = int64(8 + i)
		node.Replica.Members, node.Buckets, node.Log = manyMembers(int64(i), 3), manyBuckets(3), fullLog(3+i)
		c.Nodes, c.Clock = append(c.Nodes, node), append(c.Clock, int64(4*i))
	}
	return c
}

// noClusters are wrong in one thing each, at each place where it can be.
func noClusters() map[string]impl.Cluster {
	list := map[string]impl.Cluster{
		"the zero Cluster":       {},
		"no Nodes":               {Now: 5, Nodes: []impl.Node{}, Clock: []int64{}},
		"a Clock alone":          {Clock: []int64{0}},
		"5 Nodes":                plainCluster(5),
		"6 Nodes":                plainCluster(6),
		"7 Nodes":                plainCluster(7),
		"100 Nodes":              plainCluster(100),
		"two of 80 other Keys":   clusterOf(manyEntries(80), bookOfKeys(drawFrom(1), numbered(0, 80))),
		"81 Keys":                clusterOf(manyEntries(80), []impl.Entry{svc("a", "")}),
		"81 Keys, far apart":     clusterOf([]impl.Entry{svc("a", "")}, nil, nil, manyEntries(80)),
		"81 Keys, 79 in common":  clusterOf(manyEntries(81)[1:], manyEntries(80)),
		"81 Keys, 27 in each":    clusterOf(manyEntries(81)[:27], manyEntries(81)[27:54], manyEntries(81)[54:]),
		"81 Keys, one of a Gone": clusterOf(manyEntries(80), []impl.Entry{goneEntry("svc/a", 5, 3)}),
	}
	put := func(what string, n int, change func(*impl.Cluster)) {
		c := plainCluster(n)
		change(&c)
		list[fmt.Sprintf("%s, of %d", what, n)] = c
	}
	for n := 1; n <= 4; n++ {
		for _, now := range noTimes {
			put(fmt.Sprint("Now ", now), n, func(c *impl.Cluster) { c.Now = now })
		}
		put("no Clocks", n, func(c *impl.Cluster) { c.Clock = nil })
		put("a Clock too few", n, func(c *impl.Cluster) { c.Clock = c.Clock[1:] })
		put("a Clock too many", n, func(c *impl.Cluster) { c.Clock = append(c.Clock, 0) })
		put("no Node", n, func(c *impl.Cluster) { c.Nodes = nil })
		for at := range n {
			for _, clock := range noTimes {
				put(fmt.Sprintf("Clock %d of %d", clock, at), n, func(c *impl.Cluster) { c.Clock[at] = clock })
			}
			for _, apex := range append(noNames(), "") {
				put(fmt.Sprintf("Apex %.70q of %d", apex, at), n, func(c *impl.Cluster) { c.Nodes[at].Apex = apex })
			}
			for _, apex := range []string{"zonf", "a.zone", "z", "zone.a"} {
				if n > 1 {
					put(fmt.Sprintf("Apex %q of %d", apex, at), n, func(c *impl.Cluster) { c.Nodes[at].Apex = apex })
				}
			}
		}
	}
	return list
}

// clustersOfNoNode have one Node that is not right, of all ways in which it can be, each at another place.
func clustersOfNoNode() map[string]impl.Cluster {
	list := map[string]impl.Cluster{}
	nodes := noNodesAtAll()
	for i, what := range slices.Sorted(maps.Keys(nodes)) {
		n := 1 + i%4
		for _, at := range []int{0, n / 2, n - 1} {
			c := plainCluster(n)
			c.Nodes[at] = nodes[what]
			list[fmt.Sprintf("%s, at %d of %d", what, at, n)] = c
		}
	}
	return list
}

// Of what is no Cluster nothing happens: the zero Cluster, the zero Answer and false.
func TestNoCluster(t *testing.T) {
	t.Parallel()
	all := noClusters()
	maps.Copy(all, clustersOfNoNode())
	acts := []impl.Act{write(0, "root", "svc/a", "1"), write(0, "ann", "svc/a", "1"), tell(0, 1), tickAct, askOf(0, ask("a.zone")), stepOf(0), {}, {Kind: 6}, askOf(-1, ask("a.zone"))}
	for what, c := range all {
		if clusterByWords(c) || impl.ClusterOk(c) {
			t.Fatalf("%.100s: ClusterOk", what)
		}
		for _, a := range acts {
			if next, answer, ok := impl.Happen(c, a); ok || !sameClusters(next, impl.Cluster{}) || !sameAnswers(answer, impl.Answer{}) {
				t.Fatalf("%.100s: %v is %v, %v, %s", what, a, ok, answer, showCluster(next))
			}
		}
		for _, list := range [][]impl.Act{nil, {tickAct}, acts, slices.Repeat(acts[:1], 201)} {
			if next, answers := impl.Play(c, list); !sameClusters(next, impl.Cluster{}) || len(answers) > 0 {
				t.Fatalf("%.100s: Play of %d is %v, %s", what, len(list), answers, showCluster(next))
			}
		}
		if got := impl.Settled(c); !sameClusters(got, impl.Cluster{}) {
			t.Fatalf("%.100s: Settled is %s", what, showCluster(got))
		}
	}
	if len(all) < 2000 {
		t.Errorf("only %d", len(all))
	}
}

// ClusterOk at its limits: Now, each Clock, how many Nodes there are, their Keys together, and all that a Node may be.
func TestClusterOk(t *testing.T) {
	t.Parallel()
	put := func(what string, n int, change func(*impl.Cluster)) {
		t.Helper()
		c := plainCluster(n)
		change(&c)
		if !impl.ClusterOk(c) || !clusterByWords(c) {
			t.Errorf("%s, of %d: not ClusterOk", what, n)
		}
		if next, _, ok := impl.Happen(c, stepOf(int64(n))); ok || !sameClusters(next, c) {
			t.Errorf("%s, of %d: Happen is %v, %s", what, n, ok, showCluster(next))
		}
	}
	for n := 1; n <= 4; n++ {
		for _, time := range edgeTimes {
			put(fmt.Sprint("Now ", time), n, func(c *impl.Cluster) { c.Now = time })
			for at := range n {
				put(fmt.Sprintf("Clock %d of %d", time, at), n, func(c *impl.Cluster) { c.Clock[at] = time })
			}
			put(fmt.Sprint("all Clocks ", time), n, func(c *impl.Cluster) { c.Clock = slices.Repeat([]int64{time}, n) })
		}
		for _, apex := range edgeNames()[1:] {
			put("Apex "+apex, n, func(c *impl.Cluster) {
				for i := range c.Nodes {
					c.Nodes[i].Apex = strings.Clone(apex)
				}
			})
		}
		for i, roll := range rightRolls() {
			put(fmt.Sprint("Roll ", roll), n, func(c *impl.Cluster) { c.Nodes[i%n].Roll = roll })
		}
		for i, log := range someLogs() {
			put("Log", n, func(c *impl.Cluster) { c.Nodes[i%n].Log = log })
		}
		for i, buckets := range someBuckets() {
			put("Buckets", n, func(c *impl.Cluster) { c.Nodes[i%n].Buckets = buckets })
		}
		put("80 Keys in each", n, func(c *impl.Cluster) {
			for i := range c.Nodes {
				c.Nodes[i].Replica.Book = manyEntries(80)
			}
		})
		put("80 Keys in all", n, func(c *impl.Cluster) {
			for i := range c.Nodes {
				c.Nodes[i].Replica.Book = manyEntries(80)[i*80/n : (i+1)*80/n]
			}
		})
		put("nothing known", n, func(c *impl.Cluster) {
			for i := range c.Nodes {
				c.Nodes[i].Replica = impl.Replica{}
			}
		})
		put("one Main and Old", n, func(c *impl.Cluster) {
			for i := range c.Nodes {
				c.Nodes[i].Roll = rollOf(1, 5, 5, 0, 0)
			}
		})
	}
}

// An Entry may tell of a Node that the Cluster does not have, and a Clock may be far from all Times.
func TestClusterOkOfAnyEntries(t *testing.T) {
	for node := range int64(8) {
		c := clusterOf([]impl.Entry{entry("a", "", 1000000, node)}, []impl.Entry{goneEntry("a", 1, node)})
		c.Clock = []int64{0, 1000000}
		if !impl.ClusterOk(c) || !impl.ClusterOk(impl.Settled(c)) {
			t.Errorf("Node %d: %s", node, showCluster(c))
		}
	}
}

// Play of none leaves all as it is; 200 are played, and of 201 none, even where they would do nothing.
func TestPlayOfHowMany(t *testing.T) {
	for n := 1; n <= 4; n++ {
		c := plainCluster(n)
		for _, list := range [][]impl.Act{nil, {}, make([]impl.Act, 0, 300)} {
			if next, answers := impl.Play(c, list); !sameClusters(next, c) || len(answers) > 0 {
				t.Errorf("of none: %v, %s", answers, showCluster(next))
			}
		}
		for many, right := range map[int]bool{1: true, 2: true, 199: true, 200: true, 201: false, 202: false, 400: false, 10000: false} {
			want := impl.Cluster{}
			if right {
				want = cloneCluster(c)
				want.Now += int64(many)
			}
			if next, answers := impl.Play(c, slices.Repeat([]impl.Act{tickAct}, many)); !sameClusters(next, want) || len(answers) > 0 {
				t.Errorf("of %d: %v, %s", many, answers, showCluster(next))
			}
			for _, a := range []impl.Act{{}, {Kind: 6}, tell(0, 0), stepOf(9), askOf(9, ask("zone"))} {
				if right {
					want = c
				}
				if next, answers := impl.Play(c, slices.Repeat([]impl.Act{a}, many)); !sameClusters(next, want) || len(answers) > 0 {
					t.Errorf("%d of %v: %v, %s", many, a, answers, showCluster(next))
				}
			}
			asked := 0
			if right {
				asked = many
			}
			if _, answers := impl.Play(c, slices.Repeat([]impl.Act{askOf(0, ask("a.zone"))}, many)); len(answers) != asked {
				t.Errorf("of %d: %d Answers", many, len(answers))
			}
		}
	}
}

// Any numbers and texts: they are answered as the chapter says, and nothing panics.
func TestClustersOfAnything(t *testing.T) {
	t.Parallel()
	round := newSignRound(t)
	draw := drawFrom(190)
	numbers := []int64{math.MinInt64, -1, 0, 1, 2, 3, 4, 5, 6, 50, 99, 100, 101, 999999, 1000000, 1000001, math.MaxInt64}
	number := func() int64 { return numbers[draw(len(numbers))] }
	texts := []string{"", "zone", "a.zone", "a", "ann", "root", ".", "acl/ann", "svc/a", "rw ", "rw svc/", "\xff", strings.Repeat("a", 41)}
	text := func() string { return texts[draw(len(texts))] }
	right := 0
	for range 5000 {
		c := impl.Cluster{Now: number()}
		if draw(3) > 0 {
			c = plainCluster(1 + draw(4))
			c.Now = numbers[2+draw(13)]
		}
		for i := range c.Nodes {
			n := &c.Nodes[i]
			if draw(8) == 0 {
				n.Replica.Book = append(n.Replica.Book, impl.Entry{Key: text(), Value: text(), Time: number(), Node: number()})
			}
			if draw(20) == 0 {
				n.Roll = rollOf(number(), number(), number(), number(), number())
			}
			if draw(20) == 0 {
				n.Log = append(n.Log, impl.Line{Text: text(), Sum: number()})
			}
			if draw(20) == 0 {
				n.Buckets = append(n.Buckets, bucket(number(), number(), number()))
			}
			if draw(20) == 0 {
				n.Apex = text()
			}
			if draw(10) == 0 {
				c.Clock[i] = number()
			}
		}
		if draw(20) == 0 {
			c.Clock = append(c.Clock, number())
		}
		a := impl.Act{Kind: number(), Node: number(), To: number(), Token: text(), Key: text(), Value: text(), Gone: draw(4) == 0, Query: impl.Query{Source: number(), Token: text(), Name: text(), Type: number(), Size: number()}}
		askHappen(t, round, c, a)
		if impl.ClusterOk(c) != clusterByWords(c) || !sameClusters(impl.Settled(c), settledByWords(c)) {
			t.Fatalf("%s", showCluster(c))
		}
		next, answers := impl.Play(c, []impl.Act{a, a})
		if want, wantAnswers := playByWords(round, c, []impl.Act{a, a}); !sameClusters(next, want) || !sameAnswerLists(answers, wantAnswers) {
			t.Fatalf("%v: %v, %s", a, answers, showCluster(next))
		}
		if impl.ClusterOk(c) {
			right++
		}
	}
	if right < 1000 || right > 4000 {
		t.Errorf("%d are right", right)
	}
}

// No panic comes out, whatever they are given.
func TestClustersOfFarTooMuch(t *testing.T) {
	long := strings.Repeat("a.", 1<<20)
	many := impl.Node{
		Replica: replica(make([]impl.Entry, 10000), make([]impl.Member, 10000)),
		Buckets: make([]impl.Bucket, 10000), Log: make([]impl.Line, 10000), Apex: long,
	}
	for _, c := range []impl.Cluster{{}, {Nodes: []impl.Node{many}, Clock: []int64{0}}, {Nodes: make([]impl.Node, 10000), Clock: make([]int64, 10000)}, {Nodes: make([]impl.Node, 3)}, {Clock: make([]int64, 3)}} {
		next, answer, ok := impl.Happen(c, tickAct)
		played, answers := impl.Play(c, make([]impl.Act, 10000))
		if impl.ClusterOk(c) || ok || !sameAnswers(answer, impl.Answer{}) || len(answers) > 0 {
			t.Error("something is answered")
		}
		for _, got := range []impl.Cluster{next, played, impl.Settled(c)} {
			if !sameClusters(got, impl.Cluster{}) {
				t.Error(showCluster(got))
			}
		}
	}
	if c, ok := impl.NewCluster(long, 2); ok || !sameClusters(c, impl.Cluster{}) {
		t.Error("NewCluster says true")
	}
	c := plainCluster(3)
	a := impl.Act{Node: 2, To: math.MinInt64, Token: long, Key: long, Value: long, Query: impl.Query{Source: math.MaxInt64, Token: long, Name: long, Type: math.MinInt64, Size: math.MinInt64}}
	for _, a.Kind = range []int64{1, 2, 4, 5} {
		next, answer, ok := impl.Happen(c, a)
		if ok != (a.Kind == impl.AcAsk) || !sameClusters(next, c) || ok && answer.Code != impl.QuStill {
			t.Errorf("Kind %d: %v, %v", a.Kind, ok, answer)
		}
	}
}

// A laidCluster is a Cluster and all the arrays that its lists lie in, with marked room behind each.
type laidCluster struct {
	cluster impl.Cluster
	nodes   []impl.Node
	clocks  []int64
	laid    []laidNode
}

var roomNode = impl.Node{Replica: roomReplica, Buckets: []impl.Bucket{roomBucket}, Apex: "room"}

func layCluster(c impl.Cluster, room int) (l laidCluster) {
	nodes := []impl.Node{}
	for _, n := range c.Nodes {
		one := layNode(n, room)
		l.laid, nodes = append(l.laid, one), append(nodes, one.node)
	}
	l.cluster.Now = c.Now
	l.cluster.Nodes, l.nodes = roomyOf(nodes, room, roomNode)
	l.cluster.Clock, l.clocks = roomyOf(c.Clock, room, -7)
	return l
}

// layShared has one array for all lists of one kind that are equal.
func layShared(c impl.Cluster, room int) laidCluster {
	l := layCluster(c, room)
	for i := range l.cluster.Nodes {
		n := &l.cluster.Nodes[i]
		for _, earlier := range l.cluster.Nodes[:i] {
			if sameBooks(n.Replica.Book, earlier.Replica.Book) {
				n.Replica.Book = earlier.Replica.Book
			}
			if sameMembers(n.Replica.Members, earlier.Replica.Members) {
				n.Replica.Members = earlier.Replica.Members
			}
			if sameBuckets(n.Buckets, earlier.Buckets) {
				n.Buckets = earlier.Buckets
			}
			if slices.Equal(n.Log, earlier.Log) {
				n.Log = earlier.Log
			}
		}
	}
	return l
}

// heads tell where the lists of the Nodes lie, as a list that is replaced by an equal one is written to, too.
func (l laidCluster) heads() string {
	var text strings.Builder
	for _, n := range l.nodes {
		fmt.Fprintf(&text, "%p %d %d %p %d %d ", n.Replica.Book, len(n.Replica.Book), cap(n.Replica.Book), n.Replica.Members, len(n.Replica.Members), cap(n.Replica.Members))
		fmt.Fprintf(&text, "%p %d %d %p %d %d %v %q\n", n.Buckets, len(n.Buckets), cap(n.Buckets), n.Log, len(n.Log), cap(n.Log), n.Roll, n.Apex)
	}
	return text.String()
}

// watched is asked later whether all arrays are as they are now.
func (l laidCluster) watched() func() bool {
	heads, clocks := l.heads(), slices.Clone(l.clocks)
	same := []func() bool{}
	for _, one := range l.laid {
		same = append(same, one.watched())
	}
	return func() bool {
		for _, is := range same {
			if !is() {
				return false
			}
		}
		return l.heads() == heads && slices.Equal(l.clocks, clocks)
	}
}

var scribbledNode = impl.Node{Replica: replica([]impl.Entry{scribbled}, nil), Apex: "scribble"}

func (l laidCluster) scribble() {
	for _, one := range l.laid {
		one.scribble()
	}
	scribbleOn(l.nodes, scribbledNode)
	scribbleOn(l.clocks, -9)
}

var scribbledAct = impl.Act{Kind: -9, Node: -9, To: -9, Token: "scribble", Key: "scribble", Value: "scribble", Gone: true}

func clusterLayouts(c impl.Cluster) []laidCluster {
	return []laidCluster{layCluster(c, 0), layCluster(c, 1), layCluster(c, 90), layShared(c, 0), layShared(c, 5)}
}

// clusterAnswer is all that is answered of one Cluster and Acts.
type clusterAnswer struct {
	clusters []impl.Cluster
	answers  []impl.Answer
	played   []impl.Answer
	told     string
}

func clusterAnswers(c impl.Cluster, list []impl.Act) (all clusterAnswer) {
	oks := []bool{impl.ClusterOk(c)}
	for _, a := range list {
		next, answer, ok := impl.Happen(c, a)
		all.clusters, all.answers, oks = append(all.clusters, next), append(all.answers, answer), append(oks, ok)
	}
	played, answers := impl.Play(c, list)
	none, nothing := impl.Play(c, nil)
	apex := "zone"
	if len(c.Nodes) > 0 {
		apex = c.Nodes[0].Apex
	}
	made, ok := impl.NewCluster(apex, int64(len(c.Nodes)))
	all.clusters, all.played = append(all.clusters, impl.Settled(c), made, none, played), answers
	all.told = fmt.Sprint(oks, ok, len(nothing))
	return all
}

func (all clusterAnswer) clone() clusterAnswer {
	clusters := []impl.Cluster{}
	for _, c := range all.clusters {
		clusters = append(clusters, cloneCluster(c))
	}
	return clusterAnswer{clusters, cloneAnswers(all.answers), cloneAnswers(all.played), all.told}
}

func (all clusterAnswer) same(other clusterAnswer) bool {
	return slices.EqualFunc(all.clusters, other.clusters, sameClusters) && sameAnswerLists(all.answers, other.answers) && sameAnswerLists(all.played, other.played) && all.told == other.told
}

// writes are one for each list of all that is answered; the last ones are of the lists of Nodes and of Answers themselves.
func (all clusterAnswer) writes() []func() {
	list, last := []func(){}, []func(){}
	for _, c := range all.clusters {
		for _, n := range c.Nodes {
			list = append(list,
				func() { scribbleOn(n.Replica.Book, scribbled) }, func() { scribbleOn(n.Replica.Members, scribbledMember) },
				func() { scribbleOn(n.Buckets, scribbledBucket) }, func() { scribble(n.Log) })
		}
		list = append(list, func() { scribbleOn(c.Clock, -9) })
		last = append(last, func() { scribbleOn(c.Nodes, scribbledNode) })
	}
	for _, a := range slices.Concat(all.answers, all.played) {
		list = append(list, func() { scribbleOn(a.Records, scribbledRr) }, func() { scribbleOn(a.Deny.Types, -9) })
	}
	return append(append(list, last...), func() { scribbleOn(all.played, impl.Answer{Code: -9}) })
}

func (all clusterAnswer) scribble() {
	for _, write := range all.writes() {
		write()
	}
}

// clusterArguments are right and wrong ones, of each number of Nodes, some of them with Nodes that are alike.
func clusterArguments() []impl.Cluster {
	list := drawnClusters(191, 24)
	for n := 1; n <= 4; n++ {
		alike := clusterOf(slices.Repeat([][]impl.Entry{plainNode().Replica.Book}, n)...)
		for i := range alike.Nodes {
			alike.Nodes[i].Replica.Members, alike.Nodes[i].Buckets, alike.Nodes[i].Log = manyMembers(0, 8), manyBuckets(20), fullLog(9)
		}
		list = append(list, plainCluster(n), alike)
	}
	full := clusterOf(manyEntries(80), manyEntries(40), nil)
	full.Nodes[1].Log = fullLog(300)
	list = append(list, full, plainCluster(5), impl.Cluster{}, clusterOf(manyEntries(81)), impl.Cluster{Now: 5, Nodes: []impl.Node{}, Clock: []int64{}})
	wrong := noClusters()
	for i, what := range slices.Sorted(maps.Keys(wrong)) {
		if i%60 == 0 && len(wrong[what].Nodes) < 10 {
			list = append(list, wrong[what])
		}
	}
	return list
}

// clusterActs are of each kind, done and not, with Answers of several Codes.
func clusterActs(c impl.Cluster) []impl.Act {
	apex := "zone"
	if len(c.Nodes) > 0 {
		apex = c.Nodes[0].Apex
	}
	other := impl.Query{Source: 99, Token: "ann", Name: apex, Type: impl.TyKey, Size: 500}
	soa := impl.Query{Source: 98, Token: "ann", Name: apex, Type: impl.TySoa, Size: 500}
	return []impl.Act{
		write(0, "root", "svc/a", "9"), write(1, "root", "acl/ann", "rw svc/"), write(0, "ann", "svc/q", "1"), revoke(0, "root", "svc/d"), write(0, "root", "", "9"), write(7, "root", "svc/a", "9"),
		askOf(0, soa), askOf(1, soa), tell(0, 1), tell(1, 0), tell(2, 1), tell(0, 0), tell(0, -1), askOf(0, other), askOf(1, soa), askOf(1, other), tickAct, stepOf(0), askOf(-1, soa), {}, askOf(0, impl.Query{Source: 100}), askOf(0, soa),
	}
}

// Promise 21 of chapter 18: nothing is written into a Cluster, down to the lists of each Node, into Acts, or the room behind them, and no answer lies there.
func TestPromise21ClusterArgumentsStay(t *testing.T) {
	t.Parallel()
	for i, c := range clusterArguments() {
		acts := clusterActs(c)
		want := clusterAnswers(cloneCluster(c), slices.Clone(acts))
		for way, l := range clusterLayouts(c) {
			list, all := roomyOf(acts, 3, scribbledAct)
			wantActs := slices.Clone(all)
			same := l.watched()
			got := clusterAnswers(l.cluster, list)
			if !same() || !sameClusters(l.cluster, c) || !slices.Equal(all, wantActs) {
				t.Fatalf("Cluster %d, layout %d: something was written", i, way)
			}
			if !got.same(want) {
				t.Fatalf("Cluster %d, layout %d: %s, not %s", i, way, got.told, want.told)
			}
			got.scribble()
			if !same() || !slices.Equal(all, wantActs) {
				t.Fatalf("Cluster %d, layout %d: an answer shares memory", i, way)
			}
		}
	}
}

// Promise 21: a Cluster or Acts that are written to later change no answer.
func TestPromise21ClusterAnswersStay(t *testing.T) {
	t.Parallel()
	for i, c := range clusterArguments() {
		for way, l := range clusterLayouts(c) {
			acts := clusterActs(c)
			got := clusterAnswers(l.cluster, acts)
			want := got.clone()
			l.scribble()
			scribbleOn(acts, scribbledAct)
			if !got.same(want) {
				t.Fatalf("Cluster %d, layout %d: an answer shares memory", i, way)
			}
		}
	}
}

// Promise 21: no two lists of answers share any: no two of one Node, of two Nodes, of a Node and an Answer, of two Answers, of two calls.
func TestPromise21ClusterListsAreApart(t *testing.T) {
	t.Parallel()
	answered := 0
	for i, c := range clusterArguments() {
		for _, l := range []laidCluster{layCluster(c, 1), layShared(c, 1)} {
			got := clusterAnswers(l.cluster, clusterActs(c))
			want := got.clone()
			wants := want.writes()
			for at, write := range got.writes() {
				write()
				wants[at]()
				if !got.same(want) {
					t.Fatalf("Cluster %d: list %d shares memory with another one", i, at)
				}
			}
			answered += len(got.played)
		}
	}
	if answered < 100 {
		t.Errorf("only %d Answers", answered)
	}
}

// Promise 21: no two answers have anything in common, be they to the same, or one out of the other.
func TestPromise21ClusterAnswersAreApart(t *testing.T) {
	t.Parallel()
	for i, c := range clusterArguments() {
		acts := clusterActs(c)
		first, second := clusterAnswers(c, acts), clusterAnswers(c, acts)
		if !first.same(second) {
			t.Fatalf("Cluster %d: two calls answer otherwise", i)
		}
		on := clusterAnswers(first.clusters[len(first.clusters)-1], acts)
		want, wantOn := second.clone(), on.clone()
		first.scribble()
		if !second.same(want) || !on.same(wantOn) {
			t.Fatalf("Cluster %d: two answers share memory", i)
		}
		on.scribble()
		if !second.same(want) || !clusterAnswers(c, acts).same(want) {
			t.Fatalf("Cluster %d: two answers share memory", i)
		}
	}
}

// Promise 21: two ways on from one Cluster do not write over each other, however long its lists are.
func TestPromise21ClusterTwoWaysOn(t *testing.T) {
	c := mustCluster(t, "zone", 2)
	c = mustHappen(t, c, write(0, "root", "acl/ann", "r- svc/"))
	for i := range int64(40) {
		q := ask("zone")
		q.Source = i % 20
		left := mustHappen(t, c, write(0, "root", fmt.Sprintf("svc/n%02d", i), "left"), askOf(0, q), tell(0, 1))
		want := cloneCluster(left)
		q.Type = impl.TySoa
		right := mustHappen(t, c, write(0, "root", fmt.Sprintf("svc/n%02d", i), "right"), askOf(0, q), tickAct, tell(0, 1))
		if !sameClusters(left, want) || sameClusters(left, right) {
			t.Fatalf("%d: %s\nand %s", i, showCluster(left), showCluster(right))
		}
		c = right
	}
}

// Promise 21: the same arguments get the same answers again, whatever was asked in between.
func TestPromise21ClusterAgain(t *testing.T) {
	list := clusterArguments()
	first := []clusterAnswer{}
	for _, c := range list {
		first = append(first, clusterAnswers(c, clusterActs(c)))
	}
	for i, c := range slices.Backward(list) {
		for range 3 {
			if got := clusterAnswers(cloneCluster(c), clusterActs(c)); !got.same(first[i]) {
				t.Fatalf("Cluster %d: %s, then %s", i, first[i].told, got.told)
			}
		}
	}
}

// Promise 21: one Cluster is asked by many at the same time; .ci/run asks this under the race detector, too.
func TestAtTheSameTimeCluster(t *testing.T) {
	for i, c := range clusterArguments() {
		if i%3 > 0 {
			continue
		}
		l, acts := layShared(c, 3), clusterActs(c)
		want := clusterAnswers(cloneCluster(c), acts)
		var all sync.WaitGroup
		for range 4 {
			all.Go(func() {
				got := clusterAnswers(l.cluster, acts)
				if !got.same(want) {
					t.Errorf("Cluster %d: the answers are others at the same time", i)
				}
				got.scribble()
			})
		}
		all.Wait()
	}
}
