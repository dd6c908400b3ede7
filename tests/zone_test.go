package tests

import (
	"fmt"
	"maps"
	"math"
	"slices"
	"strings"
	"testing"

	"loop.example/g00307/impl"
)

// The constants have no kind of their own, so that they go with any number.
const (
	_ uint8   = impl.PrNothing
	_ float64 = impl.PrName
	_ int32   = impl.PrKind
)

func soa(apex string) impl.Rr { return rr(apex, 1, 10, "soa") }

// zoneOf has the TySoa of the Apex and these, in order.
func zoneOf(apex string, others ...impl.Rr) impl.Zone {
	list := append([]impl.Rr{soa(apex)}, others...)
	slices.SortFunc(list, orderByFields)
	return impl.Zone{Apex: apex, Records: list}
}

func deny(owner, next string, kinds ...int64) impl.Deny {
	return impl.Deny{Owner: owner, Next: next, Types: kinds}
}

func sameDeny(a, b impl.Deny) bool {
	return a.Owner == b.Owner && a.Next == b.Next && slices.Equal(a.Types, b.Types)
}

func sameDenies(a, b []impl.Deny) bool { return slices.EqualFunc(a, b, sameDeny) }

func cloneDeny(d impl.Deny) impl.Deny { return deny(d.Owner, d.Next, slices.Clone(d.Types)...) }

func cloneDenies(list []impl.Deny) []impl.Deny {
	clone := []impl.Deny{}
	for _, d := range list {
		clone = append(clone, cloneDeny(d))
	}
	return clone
}

func zoneByWords(z impl.Zone) bool {
	if !nameByPattern(z.Apex) || !recordsByPairs(z.Records) {
		return false
	}
	soas := []string{}
	for _, r := range z.Records {
		if !underByLabels(r.Name, z.Apex) {
			return false
		}
		if r.Type == 1 {
			soas = append(soas, r.Name)
		}
	}
	return slices.Equal(soas, []string{z.Apex})
}

// deniesBySets goes by which Types each Name has, whatever order they came in.
func deniesBySets(z impl.Zone) []impl.Deny {
	denies, kinds := []impl.Deny{}, map[string]map[int64]bool{}
	if !zoneByWords(z) {
		return denies
	}
	for _, r := range z.Records {
		if kinds[r.Name] == nil {
			kinds[r.Name] = map[int64]bool{}
		}
		kinds[r.Name][r.Type] = true
	}
	names := slices.SortedFunc(maps.Keys(kinds), orderByLabels)
	for i, name := range names {
		next := append(names, z.Apex)[i+1]
		denies = append(denies, deny(name, next, slices.Sorted(maps.Keys(kinds[name]))...))
	}
	return denies
}

// denialByWords takes the Denies of the zone, and goes by the order alone.
func denialByWords(denies []impl.Deny, apex, name string, kind int64) (impl.Deny, bool) {
	if !nameByPattern(name) || !nameByPattern(apex) || !underByLabels(name, apex) || kind < 1 || kind > 5 {
		return impl.Deny{}, false
	}
	last, is := impl.Deny{}, false
	for _, d := range denies {
		switch order := orderByLabels(d.Owner, name); {
		case order == 0 && slices.Contains(d.Types, kind):
			return impl.Deny{}, false
		case order <= 0:
			last, is = d, true
		}
	}
	return last, is
}

func provesByWords(d impl.Deny, apex, name string, kind int64) int64 {
	for _, s := range []string{d.Owner, d.Next, apex, name} {
		if !nameByPattern(s) {
			return 0
		}
	}
	switch order := orderByLabels(d.Owner, name); {
	case order == 0 && !slices.Contains(d.Types, kind):
		return 2
	case order >= 0 || !underByLabels(name, apex):
		return 0
	case d.Next == apex || orderByLabels(name, d.Next) < 0:
		return 1
	}
	return 0
}

// underNames are close ones Under the apex, it among them.
func underNames(apex string) []string {
	names := []string{}
	for _, front := range namesFrom(2, append([]string{"b", "c", "x", "zzzzzzzzzzzz"}, closeLabels...)...) {
		if name := strings.Trim(front+"."+apex, "."); nameByPattern(name) {
			names = append(names, name)
		}
	}
	return names
}

// askedNames are around each Owner: itself, all up to the Apex, and those that come close ahead and behind.
func askedNames(z impl.Zone) []string {
	names := map[string]bool{z.Apex: true}
	for _, r := range z.Records {
		for name := r.Name; name != z.Apex && underByLabels(name, z.Apex); _, name, _ = strings.Cut(name, ".") {
			first, rest, _ := strings.Cut(name, ".")
			for _, other := range []string{name, "-." + name, "zzzzzzzzzzzz." + name, first + "-." + rest, first + "0." + rest, first[:len(first)-1] + "." + rest, "a.a." + name} {
				names[strings.TrimSuffix(other, ".")] = true
			}
		}
	}
	asked := []string{}
	for name := range names {
		if nameByPattern(name) && underByLabels(name, z.Apex) {
			asked = append(asked, name)
		}
	}
	slices.Sort(asked)
	return asked
}

func longestName() string {
	return strings.Repeat(strings.Repeat("z", 12)+".", 4) + "12345678"
}

// manyZone has n Records, the TySoa among them.
func manyZone(n int) impl.Zone {
	return zoneOf("zone", manyRrs(n-1)...)
}

// wideZone has n Owners.
func wideZone(apex string, n int) impl.Zone {
	list := []impl.Rr{}
	for i := range n - 1 {
		list = append(list, rr(strings.TrimSuffix(fmt.Sprintf("n%d.%s", i, apex), "."), int64(2+i%4), int64(i%50), "t"))
	}
	return zoneOf(apex, list...)
}

// edgeZones are right zones that the chapter names.
func edgeZones() []impl.Zone {
	near, texts := []impl.Rr{}, []impl.Rr{}
	for i, name := range namesFrom(2, closeLabels...)[1:] {
		near = append(near, rr(name+".zone", int64(2+i%4), 5, "t"))
	}
	for _, text := range rrTexts() {
		texts = append(texts, rr("b.zone", 3, 5, text))
	}
	return []impl.Zone{
		zoneOf("zone"), zoneOf(""), zoneOf("-"), zoneOf("a.b.c.d.e.f"), zoneOf(longestName()), zoneOf("b.zone"),
		zoneOf("zone", rr("zone", 2, 5, "t")), zoneOf("zone", rr("zone", 5, 5, "t")), zoneOf("zone", rr("zone", 2, 5, ""), rr("zone", 2, 5, "t")),
		zoneOf("zone", rr("zone", 2, 5, "t"), rr("zone", 3, 6, "t"), rr("zone", 4, 7, "t"), rr("zone", 5, 8, "t")),
		zoneOf("", rr("", 2, 5, "t")), zoneOf("", rr("zone", 3, 5, "t")), zoneOf("", rr("", 3, 5, "t"), rr("-", 3, 5, "t"), rr("a.b.c.d.e.f", 4, 5, "t"), rr("zone", 2, 5, "t"), rr("a.zone", 3, 5, "t")),
		zoneOf("zone", rr("a.zone", 3, 5, "t")), zoneOf("zone", rr("a.zone", 2, 5, "t"), rr("a.zone", 4, 5, "t")), zoneOf("zone", rr("a.zone", 2, 5, "t"), rr("a.zone", 3, 5, "t"), rr("a.zone", 4, 5, "t"), rr("a.zone", 5, 5, "t")),
		zoneOf("zone", rr("a.zone", 3, 5, "1"), rr("a.zone", 3, 5, "2"), rr("a.zone", 3, 5, "3")),
		zoneOf("zone", rr("a.zone", 2, 5, "1"), rr("a.zone", 2, 5, "2"), rr("a.zone", 5, 6, "1"), rr("a.zone", 5, 6, "2"), rr("b.zone", 5, 7, "1"), rr("c.zone", 2, 7, "1")),
		zoneOf("zone", rr("x.c.zone", 3, 5, "t")), zoneOf("zone", rr("a.b.x.c.zone", 3, 5, "t")), zoneOf("zone", rr("b.zone", 3, 5, "t"), rr("x.c.zone", 3, 5, "t"), rr("d.zone", 3, 5, "t")),
		zoneOf("zone", rr("a.zone", 3, 5, "t"), rr("z.a.zone", 3, 5, "t"), rr("a-.zone", 3, 5, "t"), rr("b.zone", 3, 5, "t")),
		zoneOf("b.zone", rr("a.b.zone", 3, 5, "t"), rr("b.b.zone", 3, 5, "t")), zoneOf("b.b", rr("b.b.b", 3, 5, "t"), rr("b.b.b.b", 4, 5, "t")),
		zoneOf("b.c.d.e.f", rr("a.b.c.d.e.f", 3, 5, "t")), zoneOf("zone", texts...), zoneOf("zone", near...),
		manyZone(2), manyZone(59), manyZone(60), wideZone("zone", 60), wideZone("", 60), wideZone("-", 59),
	}
}

// drawnZones are of few Names and Texts, the same ones at each run; the TySoa is there once nearly always, and some are too many.
func drawnZones() []impl.Zone {
	zones, state := []impl.Zone{}, uint32(23)
	draw := func(n int) int {
		state = state*1664525 + 1013904223
		return int(state>>8) % n
	}
	for range 80 {
		apex := []string{"zone", "", "a", "b.a"}[draw(4)]
		names := underNames(apex)
		list, few := []impl.Rr{}, 1+draw(len(names))
		for range draw(64) {
			list = append(list, rr(names[draw(few)], int64(2+draw(4)), int64(draw(9)), []string{"", "t", "u"}[draw(3)]))
		}
		if draw(12) > 0 {
			list = append(list, soa(apex))
		}
		if draw(12) == 0 {
			list = append(list, soa(names[draw(few)]))
		}
		if draw(12) == 0 {
			list = append(list, rr("other", 3, 5, "t"))
		}
		if right := sortedByKeys(list); right != nil {
			list = right
		}
		zones = append(zones, impl.Zone{Apex: apex, Records: list})
	}
	return zones
}

// shortZones are all zones, right and wrong, out of a few Records in order, by four Apexes.
func shortZones() []impl.Zone {
	few := []impl.Rr{rr("", 1, 5, "s"), rr("a", 1, 5, "s"), rr("a", 1, 5, "t"), rr("a", 2, 5, "s"), rr("b.a", 1, 5, "s"), rr("b.a", 3, 5, "1"), rr("b.a", 3, 5, "2"), rr("c.b.a", 5, 5, "s"), rr("b", 2, 5, "s")}
	zones := []impl.Zone{}
	for set := range 1 << len(few) {
		list := []impl.Rr{}
		for i, r := range few {
			if set>>i&1 == 1 {
				list = append(list, r)
			}
		}
		for _, apex := range []string{"", "a", "b.a", "b"} {
			zones = append(zones, impl.Zone{Apex: apex, Records: list})
		}
	}
	return zones
}

// askZone holds all that is asked of a zone, right or wrong, against what is worked out another way.
func askZone(t *testing.T, z impl.Zone, names []string) {
	t.Helper()
	right, denies := zoneByWords(z), deniesBySets(z)
	if got := impl.ZoneOk(z); got != right {
		t.Fatalf("%v: ZoneOk %v", z, got)
	}
	owners := []string{}
	for _, d := range denies {
		owners = append(owners, d.Owner)
	}
	if got := impl.Owners(z); !slices.Equal(got, owners) {
		t.Fatalf("%v: Owners %q, not %q", z, got, owners)
	}
	if got := impl.Denies(z); !sameDenies(got, denies) {
		t.Fatalf("%v: Denies %v, not %v", z, got, denies)
	}
	for _, name := range names {
		for kind := int64(0); kind <= 6; kind++ {
			askOfZone(t, z, denies, name, kind)
		}
	}
}

// askOfZone takes no Denies where it is no zone.
func askOfZone(t *testing.T, z impl.Zone, denies []impl.Deny, name string, kind int64) {
	t.Helper()
	want, wantIs := denialByWords(denies, z.Apex, name, kind)
	if got, is := impl.Denial(z, name, kind); is != wantIs || !sameDeny(got, want) {
		t.Fatalf("%v: Denial of %.70q %d is %v, %v, not %v, %v", z, name, kind, got, is, want, wantIs)
	}
	set := []impl.Rr{}
	if len(denies) > 0 {
		set = setByKeys(z.Records, name, kind)
	}
	if got := impl.Found(z, name, kind); !sameRrs(got, set) {
		t.Fatalf("%v: Found of %.70q %d is %v, not %v", z, name, kind, got, set)
	}
}

// askIsNoZone asks all that takes a zone, of what stands there and of what does not.
func askIsNoZone(t *testing.T, what string, z impl.Zone) {
	t.Helper()
	if impl.ZoneOk(z) {
		t.Errorf("%s: ZoneOk", what)
	}
	if got := impl.Owners(z); len(got) != 0 {
		t.Errorf("%s: Owners %q", what, got)
	}
	if got := impl.Denies(z); len(got) != 0 {
		t.Errorf("%s: Denies %v", what, got)
	}
	names := map[string]bool{z.Apex: true, "a." + z.Apex: true, "": true, "zone": true}
	for _, r := range z.Records[:min(8, len(z.Records))] {
		names[r.Name], names["a."+r.Name] = true, true
	}
	for name := range names {
		for kind := int64(0); kind <= 6; kind++ {
			if got, is := impl.Denial(z, name, kind); is || !sameDeny(got, impl.Deny{}) {
				t.Errorf("%s: Denial of %.70q %d is %v, %v", what, name, kind, got, is)
			}
			if got := impl.Found(z, name, kind); len(got) != 0 {
				t.Errorf("%s: Found of %.70q %d is %v", what, name, kind, got)
			}
		}
	}
}

func TestZoneKnown(t *testing.T) {
	if codes := [3]int64{impl.PrNothing, impl.PrName, impl.PrKind}; codes != [3]int64{0, 1, 2} {
		t.Error(codes)
	}
	z := impl.Zone{Apex: "zone", Records: []impl.Rr{rr("zone", impl.TySoa, 10, "soa"), rr("zone", impl.TyNs, 10, "ns"), rr("a.zone", impl.TyA, 5, "1"), rr("a.zone", impl.TyA, 5, "2"), rr("a.zone", impl.TyKey, 5, "k"), rr("x.c.zone", impl.TyA, 5, "3")}}
	if !impl.ZoneOk(z) {
		t.Fatal("no zone")
	}
	if got := impl.Owners(z); !slices.Equal(got, []string{"zone", "a.zone", "x.c.zone"}) {
		t.Errorf("Owners %q", got)
	}
	denies := []impl.Deny{deny("zone", "a.zone", 1, 2), deny("a.zone", "x.c.zone", 3, 5), deny("x.c.zone", "zone", 3)}
	if got := impl.Denies(z); !sameDenies(got, denies) {
		t.Errorf("Denies %v", got)
	}
	if got := impl.Found(z, "a.zone", impl.TyA); !sameRrs(got, z.Records[2:4]) {
		t.Errorf("Found %v", got)
	}
	for _, one := range []struct {
		name   string
		kind   int64
		at     int
		proves int64
	}{
		{"zone", impl.TyA, 0, impl.PrKind}, {"zone", impl.TyKey, 0, impl.PrKind}, {"zone", impl.TySoa, -1, 0}, {"zone", impl.TyNs, -1, 0},
		{"a.zone", impl.TySoa, 1, impl.PrKind}, {"a.zone", impl.TySrv, 1, impl.PrKind}, {"a.zone", impl.TyA, -1, 0}, {"a.zone", impl.TyKey, -1, 0},
		{"-.zone", impl.TyA, 0, impl.PrName}, {"0.zone", impl.TySoa, 0, impl.PrName}, {"z.0.zone", impl.TyA, 0, impl.PrName}, {"0.a.zone", impl.TyA, 1, impl.PrName}, {"b.zone", impl.TyA, 1, impl.PrName}, {"c.zone", impl.TyA, 1, impl.PrName}, {"w.c.zone", impl.TyA, 1, impl.PrName},
		{"x.c.zone", impl.TyKey, 2, impl.PrKind}, {"x.x.c.zone", impl.TyA, 2, impl.PrName}, {"y.c.zone", impl.TyA, 2, impl.PrName}, {"d.zone", impl.TyA, 2, impl.PrName}, {"zone.zone", impl.TyA, 2, impl.PrName},
	} {
		want := impl.Deny{}
		if one.at >= 0 {
			want = denies[one.at]
		}
		got, is := impl.Denial(z, one.name, one.kind)
		if is != (one.at >= 0) || !sameDeny(got, want) {
			t.Errorf("Denial of %q %d is %v, %v", one.name, one.kind, got, is)
		}
		for at, d := range denies {
			if got := impl.Proves(d, "zone", one.name, one.kind); at == one.at && got != one.proves || at != one.at && got != 0 {
				t.Errorf("%v Proves %d of %q %d", d, got, one.name, one.kind)
			}
		}
	}
}

// Promise 8: of each name and Type there is just one of Found and Denial, and just one of the Denies Proves what is denied.
func TestPromise8OneOfFoundAndDenial(t *testing.T) {
	t.Parallel()
	for _, z := range slices.Concat(edgeZones(), drawnZones(), shortZones()) {
		if !impl.ZoneOk(z) {
			continue
		}
		owners, denies := impl.Owners(z), impl.Denies(z)
		near := underNames(z.Apex)
		for _, name := range append(askedNames(z), near[:min(40, len(near))]...) {
			for kind := int64(1); kind <= 5; kind++ {
				askPromise8(t, z, owners, denies, name, kind)
			}
		}
	}
}

func askPromise8(t *testing.T, z impl.Zone, owners []string, denies []impl.Deny, name string, kind int64) {
	t.Helper()
	found := len(impl.Found(z, name, kind)) > 0
	d, is := impl.Denial(z, name, kind)
	if found == is {
		t.Fatalf("%v: %q %d: Found and Denial are both %v", z, name, kind, is)
	}
	want, proofs := int64(impl.PrName), 0
	if slices.Contains(owners, name) {
		want = impl.PrKind
	}
	if got := impl.Proves(d, z.Apex, name, kind); is && got != want {
		t.Fatalf("%v: %v Proves %d of %q %d", z, d, got, name, kind)
	}
	for _, other := range denies {
		if impl.Proves(other, z.Apex, name, kind) == impl.PrNothing {
			continue
		}
		proofs++
		if found || !sameDeny(other, d) {
			t.Fatalf("%v: %q %d: %v Proves it, Denial is %v", z, name, kind, other, d)
		}
	}
	if is && proofs != 1 {
		t.Fatalf("%v: %q %d: of the Denies %d Prove it", z, name, kind, proofs)
	}
}

// Promise 8: nothing Proves that a Record is not there, and all Records are Found.
func TestPromise8NothingProvesWhatIsThere(t *testing.T) {
	for _, z := range slices.Concat(edgeZones(), drawnZones(), shortZones()) {
		if !zoneByWords(z) {
			continue
		}
		denies, found := impl.Denies(z), []impl.Rr{}
		for i, r := range z.Records {
			for _, d := range denies {
				if got := impl.Proves(d, z.Apex, r.Name, r.Type); got != impl.PrNothing {
					t.Fatalf("%v: %v Proves %d of %v", z, d, got, r)
				}
			}
			if d, is := impl.Denial(z, r.Name, r.Type); is || !sameDeny(d, impl.Deny{}) {
				t.Fatalf("%v: Denial of %v is %v, %v", z, r, d, is)
			}
			if i == 0 || z.Records[i-1].Name != r.Name || z.Records[i-1].Type != r.Type {
				found = append(found, impl.Found(z, r.Name, r.Type)...)
			}
		}
		if !sameRrs(found, z.Records) {
			t.Fatalf("%v: Found %v", z, found)
		}
	}
}

// Promise 8: the Denies go once around all the Owners, and tell each one's own Types.
func TestPromise8OnceAround(t *testing.T) {
	for _, z := range slices.Concat(edgeZones(), drawnZones(), shortZones()) {
		if !zoneByWords(z) {
			continue
		}
		owners, denies := impl.Owners(z), impl.Denies(z)
		if len(owners) == 0 || owners[0] != z.Apex || len(denies) != len(owners) {
			t.Fatalf("%v: Owners %q, Denies %v", z, owners, denies)
		}
		at := z.Apex
		for i, d := range denies {
			if d.Owner != owners[i] || d.Owner != at || i+1 < len(denies) && !impl.Before(d.Owner, d.Next) {
				t.Fatalf("%v: Deny %d is %v, behind %q", z, i, d, at)
			}
			kinds := []int64{}
			for kind := int64(1); kind <= 5; kind++ {
				if len(setByKeys(z.Records, d.Owner, kind)) > 0 {
					kinds = append(kinds, kind)
				}
			}
			if !slices.Equal(d.Types, kinds) {
				t.Fatalf("%v: Types of %q are %v", z, d.Owner, d.Types)
			}
			at = d.Next
		}
		if at != z.Apex {
			t.Fatalf("%v: the last Next is %q", z, at)
		}
	}
}

func TestZonesAtTheirEdges(t *testing.T) {
	t.Parallel()
	for _, z := range edgeZones() {
		if !zoneByWords(z) {
			t.Fatalf("the test's own %v is no zone", z)
		}
		askZone(t, z, slices.Concat(askedNames(z), underNames(z.Apex), []string{"", "zone", "other", "azone", "a.other"}))
	}
}

func TestZonesAsTheChapterSays(t *testing.T) {
	t.Parallel()
	for _, z := range drawnZones() {
		askZone(t, z, append(askedNames(z), "", "zone", "a", "other"))
	}
	few := []string{"", "a", "b.a", "c.b.a", "b", "a.b", "a.a", "c.a", "b.b.a", "d.b.a", "a.c.b.a", "-", "c"}
	for _, z := range shortZones() {
		askZone(t, z, few)
	}
	for what, zones := range map[string][]impl.Zone{"drawn": drawnZones(), "short": shortZones()} {
		right := 0
		for _, z := range zones {
			if zoneByWords(z) {
				right++
			}
		}
		if right < 40 || len(zones)-right < 10 {
			t.Errorf("the test's own, %s: %d of %d are right", what, right, len(zones))
		}
	}
}

// The TySoa alone: the ring is the Apex, which is its own Next.
func TestZoneOfItsSoaAlone(t *testing.T) {
	for _, apex := range edgeNames() {
		z := impl.Zone{Apex: apex, Records: []impl.Rr{rr(apex, impl.TySoa, 0, "")}}
		want := deny(apex, apex, 1)
		if !impl.ZoneOk(z) || !slices.Equal(impl.Owners(z), []string{apex}) || !sameDenies(impl.Denies(z), []impl.Deny{want}) {
			t.Errorf("%q: %v, Owners %q, Denies %v", apex, impl.ZoneOk(z), impl.Owners(z), impl.Denies(z))
		}
		for _, name := range underNames(apex) {
			for kind := int64(1); kind <= 5; kind++ {
				d, is := impl.Denial(z, name, kind)
				code := impl.Proves(want, apex, name, kind)
				switch {
				case name == apex && kind == 1:
					if is || code != impl.PrNothing || len(impl.Found(z, name, kind)) != 1 {
						t.Errorf("%q: its TySoa: Denial %v, Proves %d", apex, d, code)
					}
				case !is || !sameDeny(d, want) || code != impl.PrKind && name == apex || code != impl.PrName && name != apex:
					t.Errorf("%q: %q %d: Denial %v, %v, Proves %d", apex, name, kind, d, is, code)
				}
			}
		}
	}
}

// The Apex asked for each of the five Types, with each set of others beside its TySoa.
func TestZoneApexTypes(t *testing.T) {
	for _, apex := range []string{"zone", "", "a.b.c.d.e.f"} {
		for set := range 16 {
			others, kinds := []impl.Rr{}, []int64{1}
			for kind := int64(2); kind <= 5; kind++ {
				if set>>(kind-2)&1 == 1 {
					others, kinds = append(others, rr(apex, kind, kind, "t"), rr(apex, kind, kind, "u")), append(kinds, kind)
				}
			}
			z, want := zoneOf(apex, others...), deny(apex, apex, kinds...)
			for kind := int64(1); kind <= 5; kind++ {
				there := slices.Contains(kinds, kind)
				d, is := impl.Denial(z, apex, kind)
				if is == there || is && !sameDeny(d, want) || there != (len(impl.Found(z, apex, kind)) > 0) {
					t.Errorf("%q with %v: Denial of %d is %v, %v", apex, kinds, kind, d, is)
				}
			}
		}
	}
}

func TestFound(t *testing.T) {
	z := zoneOf("zone", rr("zone", 2, 8, "n"), rr("a.zone", 3, 5, "1"), rr("b.zone", 3, 5, "1"), rr("b.zone", 3, 5, "2"), rr("b.zone", 3, 5, "3"), rr("b.zone", 5, 6, "k"))
	want := map[rrSet][]impl.Rr{{"zone", 1}: z.Records[:1], {"zone", 2}: z.Records[1:2], {"a.zone", 3}: z.Records[2:3], {"b.zone", 3}: z.Records[3:6], {"b.zone", 5}: z.Records[6:]}
	for _, name := range []string{"", "zone", "a.zone", "b.zone", "c.zone", "a", "b", "a.b.zone", "one"} {
		for kind := int64(-1); kind <= 7; kind++ {
			if got := impl.Found(z, name, kind); !sameRrs(got, want[rrSet{name, kind}]) {
				t.Errorf("Found %q %d is %v", name, kind, got)
			}
		}
	}
	for _, name := range append(noNames(), "B.zone", "b.zone.", ".b.zone", "*.zone", "b.zone ", "b.zone\x00") {
		if got := impl.Found(z, name, 3); len(got) != 0 {
			t.Errorf("Found %.70q is %v", name, got)
		}
	}
	for _, kind := range noKinds() {
		if got := impl.Found(z, "b.zone", kind); len(got) != 0 {
			t.Errorf("Found kind %d is %v", kind, got)
		}
	}
}

func noKinds() []int64 {
	return []int64{0, 6, -1, -3, 7, 100, 256 + 3, 1<<16 + 3, 1<<32 + 3, -1<<32 + 3, math.MaxInt64, math.MinInt64, math.MinInt64 + 3}
}

func TestZonesAsManyAsAny(t *testing.T) {
	for _, z := range []impl.Zone{manyZone(60), wideZone("zone", 60), wideZone("", 60)} {
		if len(z.Records) != 60 || !impl.ZoneOk(z) || len(impl.Owners(z)) == 0 || len(impl.Denies(z)) != len(impl.Owners(z)) {
			t.Errorf("60: %v, %d Owners", impl.ZoneOk(z), len(impl.Owners(z)))
		}
	}
	if got := impl.Owners(wideZone("zone", 60)); len(got) != 60 {
		t.Errorf("60 Owners: %d", len(got))
	}
	for _, n := range []int{61, 62, 120, 1000} {
		askIsNoZone(t, fmt.Sprint(n), manyZone(n))
		askIsNoZone(t, fmt.Sprintf("%d Owners", n), wideZone("zone", n))
		askIsNoZone(t, fmt.Sprintf("%d Owners of the root", n), wideZone("", n))
	}
}

// Each fault of Records, with nothing but that wrong: the root is the Apex of all, and no Type is TySoa but the first one's.
func TestZoneOfNoRecords(t *testing.T) {
	for what, list := range noRecords() {
		others := []impl.Rr{}
		for _, r := range list {
			others = append(others, rr(r.Name, min(5, r.Type+1), r.Ttl, r.Text))
		}
		z := impl.Zone{Records: append([]impl.Rr{soa("")}, others...)}
		if mended := (impl.Zone{Records: sortedByKeys(z.Records)}); recordsByPairs(z.Records) || !zoneByWords(mended) || !impl.ZoneOk(mended) {
			t.Fatalf("%s: the test's own zone", what)
		}
		askIsNoZone(t, what, z)
	}
}

func TestZoneOfNoRr(t *testing.T) {
	for _, z := range []impl.Zone{zoneOf(""), zoneOf("", rr("a", 3, 5, "t"), rr("b", 2, 5, "t"), rr("b", 5, 5, "t"), rr("c", 3, 5, "t"))} {
		for _, wrong := range noRrs() {
			for at := range len(z.Records) + 1 {
				askIsNoZone(t, fmt.Sprintf("%v at %d", wrong, at), impl.Zone{Records: slices.Insert(slices.Clone(z.Records), at, wrong)})
			}
		}
	}
	for _, wrong := range []impl.Rr{rr("zone", 1, -1, "s"), rr("zone", 1, 101, "s"), rr("zone", 1, 5, strings.Repeat("x", 61)), rr("zone", 0, 5, "s"), rr("zone", 6, 5, "s"), rr("zone", 1<<32+1, 5, "s")} {
		askIsNoZone(t, fmt.Sprintf("%v as TySoa", wrong), impl.Zone{Apex: "zone", Records: []impl.Rr{wrong}})
		askIsNoZone(t, fmt.Sprintf("%v as TySoa of two", wrong), impl.Zone{Apex: "zone", Records: []impl.Rr{wrong, rr("a.zone", 3, 5, "t")}})
	}
}

func TestZoneOfAnApexThatIsNoName(t *testing.T) {
	for _, apex := range noNames() {
		askIsNoZone(t, fmt.Sprintf("%.70q of no Records", apex), impl.Zone{Apex: apex})
		askIsNoZone(t, fmt.Sprintf("%.70q", apex), impl.Zone{Apex: apex, Records: []impl.Rr{soa(apex)}})
		askIsNoZone(t, fmt.Sprintf("%.70q above zone", apex), impl.Zone{Apex: apex, Records: []impl.Rr{soa("zone"), rr("a.zone", 3, 5, "t")}})
		askIsNoZone(t, fmt.Sprintf("%.70q above the root", apex), impl.Zone{Apex: apex, Records: []impl.Rr{soa("")}})
	}
}

// A Record that is not Under the Apex, at whatever place it has in order.
func TestZoneOfRecordsElsewhere(t *testing.T) {
	for apex, others := range map[string][]string{
		"zone":   {"", "-", "a", "azone", "a.azone", "b-zone", "zone0", "zon", "one", "zone.a", "zone.zone0", "zonea", "zzz", "a.b"},
		"b.zone": {"", "zone", "a.zone", "ab.zone", "c.zone", "b.a", "a.b.a", "b", "b.zone0", "zone.b", "bzone"},
		"-":      {"", "a", "--", "a.--", "0"},
	} {
		for _, name := range others {
			for kind := int64(2); kind <= 5; kind++ {
				for _, z := range []impl.Zone{zoneOf(apex, rr(name, kind, 5, "t")), zoneOf(apex, rr("a."+apex, 3, 5, "t"), rr(name, kind, 5, "t"), rr("c."+apex, 3, 5, "t"))} {
					if !impl.RecordsOk(z.Records) {
						t.Fatalf("the test's own %v", z)
					}
					askIsNoZone(t, fmt.Sprintf("%q of %q", name, apex), z)
				}
			}
		}
	}
}

func TestZoneOfOtherSoas(t *testing.T) {
	a, ns := rr("a.zone", 3, 5, "t"), rr("zone", 2, 5, "t")
	for what, list := range map[string][]impl.Rr{
		"no Records":                             {},
		"no TySoa":                               {ns, a},
		"no TySoa, no Record at the Apex":        {a},
		"two TySoas":                             {rr("zone", 1, 5, "s"), rr("zone", 1, 5, "t")},
		"two TySoas and others":                  {rr("zone", 1, 5, ""), rr("zone", 1, 5, "t"), ns, a},
		"three TySoas":                           {rr("zone", 1, 5, "s"), rr("zone", 1, 5, "t"), rr("zone", 1, 5, "u")},
		"a TySoa elsewhere alone":                {rr("a.zone", 1, 5, "s")},
		"a TySoa elsewhere, another at the Apex": {ns, rr("a.zone", 1, 5, "s"), a},
		"a TySoa elsewhere, too":                 {rr("zone", 1, 5, "s"), rr("a.zone", 1, 5, "s")},
		"a TySoa elsewhere, too, and others":     {rr("zone", 1, 5, "s"), ns, rr("a.zone", 1, 5, "t"), a},
		"a TySoa at the end, too":                {rr("zone", 1, 5, "s"), a, rr("x.c.zone", 1, 5, "s")},
		"a TySoa above":                          {rr("", 1, 5, "s"), a},
		"a TySoa above, too":                     {rr("", 1, 5, "s"), rr("zone", 1, 5, "s")},
	} {
		if !impl.RecordsOk(list) {
			t.Fatalf("%s: the test's own list", what)
		}
		askIsNoZone(t, what, impl.Zone{Apex: "zone", Records: list})
	}
	askIsNoZone(t, "none of the root", impl.Zone{})
	askIsNoZone(t, "a TySoa below the root", impl.Zone{Records: []impl.Rr{soa("zone")}})
}

// Denial of right zones, where what is asked is not as told.
func TestNoDenial(t *testing.T) {
	ask := func(z impl.Zone, name string, kind int64) {
		t.Helper()
		if d, is := impl.Denial(z, name, kind); is || !sameDeny(d, impl.Deny{}) {
			t.Errorf("%v: Denial of %.70q %d is %v, %v", z, name, kind, d, is)
		}
	}
	for _, z := range edgeZones() {
		for _, name := range noNames() {
			ask(z, name, impl.TyA)
		}
		for _, name := range []string{"", "a", "azone", "zone0", "zon", "a.azone", "zone.a", "zz", "-", "--", "a.b.c.d.e.g"} {
			for kind := int64(1); kind <= 5 && !underByLabels(name, z.Apex); kind++ {
				ask(z, name, kind)
			}
		}
		for _, kind := range noKinds() {
			for _, name := range askedNames(z) {
				ask(z, name, kind)
			}
		}
		for _, r := range z.Records {
			ask(z, r.Name, r.Type)
		}
	}
}

// What Proves says of any four names, Types and kind.
func TestProvesOfAny(t *testing.T) {
	t.Parallel()
	names := append(namesFrom(2, "a", "b"), "a-", "c", "A", "a.")
	for _, owner := range names {
		for _, next := range names {
			for _, kinds := range [][]int64{nil, {3}, {1, 2, 4, 5}} {
				for _, apex := range names {
					for _, name := range names {
						d := deny(owner, next, kinds...)
						for _, kind := range []int64{3, 4, 0} {
							if got, want := impl.Proves(d, apex, name, kind), provesByWords(d, apex, name, kind); got != want {
								t.Fatalf("%v of %q Proves %d of %q %d, not %d", d, apex, got, name, kind, want)
							}
						}
					}
				}
			}
		}
	}
}

func TestProvesAtItsEdges(t *testing.T) {
	middle, last := deny("a.zone", "c.zone", 3), deny("c.zone", "zone", 3, 5)
	for _, one := range []struct {
		d    impl.Deny
		apex string
		name string
		kind int64
		want int64
	}{
		{middle, "zone", "b.zone", 3, impl.PrName}, {middle, "zone", "b.zone", 1, impl.PrName}, {middle, "zone", "x.b.zone", 3, impl.PrName}, {middle, "zone", "x.a.zone", 3, impl.PrName}, {middle, "zone", "a-.zone", 3, impl.PrName},
		{middle, "zone", "c.zone", 3, impl.PrNothing}, {middle, "zone", "c.zone", 1, impl.PrNothing}, {middle, "zone", "x.c.zone", 3, impl.PrNothing}, {middle, "zone", "d.zone", 3, impl.PrNothing}, {middle, "zone", "0.zone", 3, impl.PrNothing}, {middle, "zone", "zone", 3, impl.PrNothing}, {middle, "zone", "x.0.zone", 3, impl.PrNothing},
		{middle, "zone", "a.zone", 3, impl.PrNothing}, {middle, "zone", "a.zone", 1, impl.PrKind}, {middle, "zone", "a.zone", 5, impl.PrKind},
		{last, "zone", "d.zone", 3, impl.PrName}, {last, "zone", "x.c.zone", 3, impl.PrName}, {last, "zone", "zzz.zone", 1, impl.PrName}, {last, "zone", "b.zone", 3, impl.PrNothing}, {last, "zone", "zone", 3, impl.PrNothing}, {last, "zone", "zone", 1, impl.PrNothing},
		{last, "zone", "c.zone", 3, impl.PrNothing}, {last, "zone", "c.zone", 5, impl.PrNothing}, {last, "zone", "c.zone", 4, impl.PrKind},
		{last, "zone", "zzz", 3, impl.PrNothing}, {last, "zone", "d.zzz", 3, impl.PrNothing}, {last, "zone", "zone0", 3, impl.PrNothing}, {last, "zone", "d.zone0", 3, impl.PrNothing}, {last, "zone", "", 3, impl.PrNothing},
		{last, "", "d.zone", 3, impl.PrNothing}, {last, "a.zone", "d.zone", 3, impl.PrNothing}, {last, "e.zone", "d.zone", 3, impl.PrNothing},
		{middle, "", "b.zone", 3, impl.PrName}, {middle, "b.zone", "b.zone", 3, impl.PrName}, {middle, "x.b.zone", "b.zone", 3, impl.PrNothing}, {middle, "a.zone", "b.zone", 3, impl.PrNothing}, {middle, "other", "b.zone", 3, impl.PrNothing},
		{deny("b", "x", 3), "zone", "c", 3, impl.PrNothing}, {deny("b", "b", 3), "b", "a.b", 3, impl.PrName}, {deny("b", "b", 3), "b", "c", 3, impl.PrNothing}, {deny("b", "b", 3), "", "c", 3, impl.PrNothing}, {deny("c", "b", 3), "", "d", 3, impl.PrNothing},
		{deny("", "", 1), "", "", 1, impl.PrNothing}, {deny("", "", 1), "", "", 2, impl.PrKind}, {deny("", "", 1), "", "a", 1, impl.PrName}, {deny("", "a", 1), "", "a", 1, impl.PrNothing}, {deny("", "b", 1), "", "a", 1, impl.PrName}, {deny("z", "", 1), "", "zz", 1, impl.PrName},
		{deny("a.zone", "c.zone"), "zone", "a.zone", 3, impl.PrKind}, {deny("a.zone", "c.zone"), "zone", "b.zone", 3, impl.PrName}, {deny("a.zone", "c.zone"), "zone", "c.zone", 3, impl.PrNothing}, {impl.Deny{}, "", "", 0, impl.PrKind}, {impl.Deny{}, "", "a", 0, impl.PrName}, {impl.Deny{}, "zone", "zone", 3, impl.PrNothing},
		{deny("a.zone", "c.zone", 5, 3, 3, 1), "zone", "a.zone", 1, impl.PrNothing}, {deny("a.zone", "c.zone", 5, 3, 3, 1), "zone", "a.zone", 5, impl.PrNothing}, {deny("a.zone", "c.zone", 5, 3, 3, 1), "zone", "a.zone", 4, impl.PrKind}, {deny("a.zone", "c.zone", 7, -1), "zone", "a.zone", 7, impl.PrNothing}, {deny("a.zone", "c.zone", 1<<32+3), "zone", "a.zone", 3, impl.PrKind},
		{middle, "other", "a.zone", 1, impl.PrKind}, {middle, "other", "a.zone", 3, impl.PrNothing}, {middle, "c.zone", "a.zone", 1, impl.PrKind},
	} {
		if got := impl.Proves(one.d, one.apex, one.name, one.kind); got != one.want {
			t.Errorf("%v of %q Proves %d of %q %d, not %d", one.d, one.apex, got, one.name, one.kind, one.want)
		}
	}
	for _, kind := range noKinds() {
		if name, own := impl.Proves(middle, "zone", "b.zone", kind), impl.Proves(middle, "zone", "a.zone", kind); name != impl.PrName || own != impl.PrKind {
			t.Errorf("kind %d: Proves %d and %d", kind, name, own)
		}
	}
}

// One that is no name at each place, alone and together with another one alike, whatever would be proved else.
func TestProvesOfNoName(t *testing.T) {
	for _, bad := range noNames() {
		for _, one := range []struct {
			d          impl.Deny
			apex, name string
		}{
			{deny(bad, "c.zone"), "zone", "b.zone"}, {deny(bad, "zone"), "zone", "b.zone"}, {deny(bad, "c.zone"), "zone", bad}, {deny(bad, bad), bad, bad},
			{deny("a.zone", bad), "zone", "b.zone"}, {deny("a.zone", bad), "zone", "a.zone"}, {deny("", bad), "", ""}, {deny("a.zone", bad), bad, "b.zone"}, {deny("a.zone", bad), bad, "a.zone"},
			{deny("a.zone", "c.zone"), bad, "b.zone"}, {deny("a.zone", "c.zone"), bad, "a.zone"}, {deny("a.zone", "zone"), bad, "zone"},
			{deny("a.zone", "c.zone"), "zone", bad}, {deny("a.zone", "zone"), "zone", bad}, {deny("", ""), "", bad}, {deny("zone", "zone"), "zone", bad + ".zone"},
		} {
			for kind := int64(0); kind <= 6; kind++ {
				if got := impl.Proves(one.d, one.apex, one.name, kind); got != impl.PrNothing {
					t.Errorf("%v of %.70q Proves %d of %.70q", one.d, one.apex, got, one.name)
				}
			}
		}
	}
}

// zoneArguments are right and wrong ones.
func zoneArguments() []impl.Zone {
	zones := slices.Concat(edgeZones(), drawnZones()[:40], shortZones()[1000:1200], []impl.Zone{manyZone(61), {}})
	for _, list := range noRecords() {
		zones = append(zones, impl.Zone{Records: append([]impl.Rr{soa("")}, list...)})
	}
	return zones
}

// zoneAsked are a name that has a Record, one that has none, and a kind that the first one has.
func zoneAsked(z impl.Zone) (string, string, int64) {
	name, kind := aSetOf(z.Records)
	return name, "zzzzzzzzzzzz." + z.Apex, kind
}

// zoneAnswers are all that chapter 8 answers of one zone.
type zoneAnswers struct {
	owners      []string
	denies      []impl.Deny
	kind, apart impl.Deny
	found       []impl.Rr
}

func answersOf(z impl.Zone) zoneAnswers {
	there, none, kind := zoneAsked(z)
	a := zoneAnswers{owners: impl.Owners(z), denies: impl.Denies(z), found: impl.Found(z, there, kind)}
	a.apart, _ = impl.Denial(z, strings.TrimSuffix(none, "."), kind)
	for other := int64(1); other <= 5 && a.kind.Types == nil; other++ {
		a.kind, _ = impl.Denial(z, there, other)
	}
	return a
}

func (a zoneAnswers) clone() zoneAnswers {
	return zoneAnswers{owners: slices.Clone(a.owners), denies: cloneDenies(a.denies), kind: cloneDeny(a.kind), apart: cloneDeny(a.apart), found: slices.Clone(a.found)}
}

func (a zoneAnswers) same(b zoneAnswers) bool {
	return slices.Equal(a.owners, b.owners) && sameDenies(a.denies, b.denies) && sameDeny(a.kind, b.kind) && sameDeny(a.apart, b.apart) && sameRrs(a.found, b.found)
}

func (a zoneAnswers) scribble() {
	scribbleOn(a.owners, "scribble")
	for _, d := range append(slices.Clone(a.denies), a.kind, a.apart) {
		scribbleOn(d.Types, -9)
	}
	scribbleOn(a.denies, deny("scribble", "scribble"))
	scribbleOn(a.found, rr("scribble", -9, -9, "scribble"))
}

// Promise 21 of chapter 8: nothing is written into an argument or the room behind it, and no answer lies there.
func TestPromise21ZoneArgumentsStay(t *testing.T) {
	for i, z := range zoneArguments() {
		for _, room := range []int{0, 1, 70} {
			front, all := roomyOf(z.Records, room, rr("room", -7, -7, "room"))
			before := slices.Clone(all)
			impl.ZoneOk(impl.Zone{Apex: z.Apex, Records: front})
			answers := answersOf(impl.Zone{Apex: z.Apex, Records: front})
			if !sameRrs(all, before) {
				t.Fatalf("zone %d with room for %d: something was written", i, room)
			}
			answers.scribble()
			if !sameRrs(all, before) {
				t.Fatalf("zone %d with room for %d: an answer shares memory", i, room)
			}
		}
	}
}

func TestPromise21ProvesArgumentsStay(t *testing.T) {
	for _, kinds := range [][]int64{nil, {}, {3}, {5, 3, 3, 1}, {1, 2, 3, 4, 5}} {
		for _, name := range []string{"a.zone", "b.zone", "c.zone", "A"} {
			front, all := roomyOf(kinds, 4, -7)
			before := slices.Clone(all)
			for kind := int64(-1); kind <= 7; kind++ {
				impl.Proves(deny("a.zone", "c.zone", front...), "zone", name, kind)
			}
			if !slices.Equal(all, before) {
				t.Errorf("%v of %q: something was written", kinds, name)
			}
		}
	}
}

// Promise 21: an argument that is written to later changes no answer.
func TestPromise21ZoneAnswersStay(t *testing.T) {
	for i, z := range zoneArguments() {
		front, all := roomyOf(z.Records, 3, impl.Rr{})
		answers := answersOf(impl.Zone{Apex: z.Apex, Records: front})
		want := answers.clone()
		scribbleOn(all, rr("scribble", -9, -9, "scribble"))
		if !answers.same(want) {
			t.Fatalf("zone %d: an answer shares memory", i)
		}
	}
}

// Promise 21: two answers to one zone have nothing in common, whichever they are.
func TestPromise21ZoneAnswersAreApart(t *testing.T) {
	for i, z := range zoneArguments() {
		first, second := answersOf(z), answersOf(z)
		want := second.clone()
		first.scribble()
		if !second.same(want) || !answersOf(z).same(want) {
			t.Fatalf("zone %d: two answers share memory", i)
		}
		scribbleOn(second.apart.Types, -9)
		if !sameDeny(second.kind, want.kind) || !sameDenies(second.denies, want.denies) {
			t.Fatalf("zone %d: Denial shares memory with another answer", i)
		}
		scribbleOn(second.kind.Types, -9)
		if !sameDenies(second.denies, want.denies) {
			t.Fatalf("zone %d: Denial shares memory with Denies", i)
		}
		second.scribble()
		if !answersOf(z).same(want) {
			t.Fatalf("zone %d: what was written is answered", i)
		}
	}
}

// Promise 21: no two Types of one answer share memory, the room behind them among it.
func TestPromise21ZoneTypesAreApart(t *testing.T) {
	for i, z := range zoneArguments() {
		want := impl.Denies(z)
		for at := range want {
			denies := impl.Denies(z)
			scribbleOn(denies[at].Types, -9)
			scribbleOn(append(denies[at].Types, 9), -9)
			denies[at] = want[at]
			if !sameDenies(denies, want) {
				t.Fatalf("zone %d: what is written into the Types of Deny %d is in another one", i, at)
			}
		}
	}
}

// Promise 21: each argument gets the same answer again.
func TestPromise21ZoneAgain(t *testing.T) {
	zones := zoneArguments()
	first := []zoneAnswers{}
	for _, z := range zones {
		first = append(first, answersOf(z))
	}
	for i, z := range slices.Backward(zones) {
		if got := answersOf(z); !got.same(first[i]) {
			t.Fatalf("zone %d: %v, then %v", i, first[i], got)
		}
	}
}
