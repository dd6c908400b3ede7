package tests

import (
	"fmt"
	"slices"
	"strings"
	"testing"

	"loop.example/g00307/impl"
)

// A standing is a rest of a name, and a place at which it can be read.
type standing struct {
	rest  string
	place int
}

// packedBySearch goes through all places at which a rest can be read, those of pairs, too, and takes the least.
func packedBySearch(list []string) string {
	text, known := "", []standing{}
	for _, name := range list {
		labels, stand := splitLabels(name), []standing{}
		led := false
		for i, label := range labels {
			rest, least := strings.Join(labels[i:], "."), -1
			for _, s := range known {
				if s.rest == rest && (least < 0 || s.place < least) {
					least = s.place
				}
			}
			stand = append(stand, standing{rest, len(text)})
			if least >= 0 {
				text += string([]byte{byte(192 + least/256), byte(least % 256)})
				led = true
				break
			}
			text += string([]byte{byte(len(label))}) + label
		}
		if !led {
			text += "\x00"
		}
		known = append(known, stand...)
	}
	return text
}

// plainByLengths: each label and the byte ahead of it, and a byte 0 a name.
func plainByLengths(list []string) int64 {
	n := 0
	for _, name := range list {
		for _, label := range splitLabels(name) {
			n += 1 + len(label)
		}
		n++
	}
	return int64(n)
}

// restsOnce tells whether no rest of a name stands twice.
func restsOnce(list []string) bool {
	rests := []string{}
	for _, name := range list {
		labels := splitLabels(name)
		for i := range labels {
			rests = append(rests, strings.Join(labels[i:], "."))
		}
	}
	slices.Sort(rests)
	return len(slices.Compact(slices.Clone(rests))) == len(rests)
}

// restRead reads labels up to a byte 0, wherever pairs lead; hops end a ring of them.
func restRead(s string, at, hops int) (labels []string, behind int, ok bool) {
	if at >= len(s) || hops > 100 {
		return nil, 0, false
	}
	size := int(s[at])
	switch {
	case size == 0:
		return nil, at + 1, true
	case size >= 192 && at+1 < len(s):
		labels, _, ok = restRead(s, (size-192)*256+int(s[at+1]), hops+1)
		return labels, at + 2, ok
	case size >= 192 || at+1+size > len(s):
		return nil, 0, false
	}
	labels, behind, ok = restRead(s, at+1+size, hops+1)
	return append([]string{s[at+1 : at+1+size]}, labels...), behind, ok
}

// unpackedBySearch takes what can be read and is what packedBySearch makes of names.
func unpackedBySearch(s string) ([]string, bool) {
	list := []string{}
	for at := 0; at < len(s); {
		labels, behind, ok := restRead(s, at, 0)
		name := strings.Join(labels, ".")
		if !ok || !nameByPattern(name) || len(list) == 20 {
			return nil, false
		}
		list, at = append(list, name), behind
	}
	return list, packedBySearch(list) == s
}

// apartNames are n of 60 bytes, no two of which have a last label in common.
func apartNames(n int) []string {
	list := []string{}
	for i := range n {
		list = append(list, fmt.Sprintf("aaaaaaaaaaaa.bbbbbbbbbbbb.cccccccccccc.dddddddddddd.last-%03d", i))
	}
	return list
}

// nestedNames are names each of which is the rest of the one behind it.
func nestedNames() []string {
	return []string{"f", "e.f", "d.e.f", "c.d.e.f", "b.c.d.e.f", "a.b.c.d.e.f"}
}

func backwards(list []string) []string {
	list = slices.Clone(list)
	slices.Reverse(list)
	return list
}

// atPlace is a list whose last but one name stands at the place, and whose last one leads to it.
func atPlace(place int) []string {
	list := []string{}
	left := place
	for i := 0; left > 0; i++ {
		// A name of one label has two bytes more than that; what is left over are roots.
		size := min(left, 14)
		if size < 5 {
			list = append(list, "")
			left--
			continue
		}
		list = append(list, fmt.Sprintf("%0*d", size-2, i))
		left -= size
	}
	return append(list, "led.to", "x.led.to")
}

// longAtPlace is the same with names of up to 62 bytes packed, so that great places are reached.
func longAtPlace(place int) []string {
	list := apartNames(place / 62)
	list = append(list, slices.Repeat([]string{""}, min(place%62, 18-len(list)))...)
	return append(list, "led.to", "x.led.to")
}

// edgeLists are the lists that the chapter names.
func edgeLists() [][]string {
	twelve := strings.Repeat("z", 12)
	lists := [][]string{
		{}, {""}, {"", ""}, {"", "", ""}, slices.Repeat([]string{""}, 20), slices.Repeat([]string{""}, 19),
		{"", "a", ""}, {"a", "", "a"}, {"", "a.b", "", "c.a.b", "", "b", ""}, {"a", "", "b.a", "", ""},
		{"a"}, {"-"}, {"0"}, {"a.b"}, {"a.a"}, {"a.a.a.a.a.a"}, {"a.a", "a"}, {"a", "a.a", "a.a.a"}, {"a.b.a.b", "a.b", "b.a.b", "b"},
		{"a", "a"}, {"a", "a", "a", "a"}, {"a.b", "a.b"}, {"zone", "zone", "zone"}, slices.Repeat([]string{"a"}, 20), slices.Repeat([]string{"a.b.c.d.e.f"}, 20), slices.Repeat([]string{"a", ""}, 10),
		{"a.b", "c.a.b", "b", ""}, {"a.b", "b"}, {"b", "a.b"}, {"a.b", "c.b"}, {"a.b", "c.b", "d.b", "b", "a.b", "c.b", "d.b"},
		{"b", "a.b", "c.a.b", "c.a.b", "a.b", "b", "d.c.a.b"}, {"a.zone", "b.zone", "a.b.zone", "zone", "c.a.b.zone"},
		{"ab", "b"}, {"ab.c", "b.c"}, {"aab", "ab", "b"}, {"a", "aa", "aaa"}, {"a.b", "a"}, {"a.b.c", "a.b", "a"}, {"a.b.c", "a.c", "b.c"}, {"a.b", "b.a"}, {"a.b", "b.a", "a.b.a", "b.a.b"},
		nestedNames(), backwards(nestedNames()), append(nestedNames(), nestedNames()...), append(nestedNames(), backwards(nestedNames())...),
		{twelve}, {twelve, twelve}, {twelve + "." + twelve, twelve}, {twelve + "." + twelve + "." + twelve + "." + twelve, twelve + "." + twelve, "a." + twelve + "." + twelve + "." + twelve + "." + twelve},
		apartNames(1), apartNames(2), apartNames(20), append(apartNames(19), apartNames(1)...), append(apartNames(19), "last-018"), append(apartNames(18), "cccccccccccc.dddddddddddd.last-017", "b.cccccccccccc.dddddddddddd.last-017"),
		edgeNames()[:20], edgeNames()[13:], backwards(edgeNames())[:20],
	}
	for _, place := range []int{0, 1, 2, 3, 4, 12, 13, 44, 96, 97, 122, 127, 128, 190, 191, 192, 193, 200} {
		lists = append(lists, atPlace(place))
	}
	for _, place := range []int{248, 254, 255, 256, 257, 258, 310, 511, 512, 513, 567, 744, 767, 768, 769, 1023, 1024, 1025, 1116} {
		lists = append(lists, longAtPlace(place))
	}
	return lists
}

// drawnLists are of names that share rests, the same ones at each run.
func drawnLists() [][]string {
	names, lists := namesFrom(4, "a", "b", "aa"), [][]string{}
	state := uint32(7)
	draw := func(n int) int {
		state = state*1664525 + 1013904223
		return int(state>>8) % n
	}
	for range 2000 {
		list := []string{}
		for range draw(21) {
			list = append(list, names[draw(len(names))])
		}
		lists = append(lists, list)
	}
	return lists
}

// shortLists are all lists of at most n names out of a few close ones.
func shortLists(n int) [][]string {
	names := []string{"", "a", "b", "a.a", "a.b", "b.a", "b.b", "a.b.a", "ab", "a.ab"}
	lists, last := [][]string{{}}, [][]string{{}}
	for range n {
		next := [][]string{}
		for _, list := range last {
			for _, name := range names {
				next = append(next, append(slices.Clone(list), name))
			}
		}
		lists, last = append(lists, next...), next
	}
	return lists
}

func someLists() [][]string {
	return slices.Concat(edgeLists(), drawnLists(), shortLists(4))
}

// askUnpacked holds Unpacked against unpackedBySearch.
func askUnpacked(t *testing.T, s string) {
	t.Helper()
	want, taken := unpackedBySearch(s)
	got, ok := impl.Unpacked(s)
	if ok != taken || taken && !slices.Equal(got, want) || !ok && len(got) != 0 {
		t.Fatalf("%.300q: %q, %v; it is of %q, %v", s, got, ok, want, taken)
	}
	if ok && impl.Packed(got) != s {
		t.Fatalf("%.300q: taken as %q, which is packed as %q", s, got, impl.Packed(got))
	}
}

// askIsNotPacked is for texts that Packed makes of no list.
func askIsNotPacked(t *testing.T, s string) {
	t.Helper()
	if list, ok := unpackedBySearch(s); ok {
		t.Fatalf("the test's own %.300q is what Packed makes of %q", s, list)
	}
	if got, ok := impl.Unpacked(s); ok || len(got) != 0 {
		t.Errorf("%.300q: %q, %v", s, got, ok)
	}
}

func TestPackKnown(t *testing.T) {
	for _, known := range []struct {
		list   []string
		packed string
		plain  int64
	}{
		{[]string{}, "", 0},
		{[]string{""}, "\x00", 1},
		{[]string{"", ""}, "\x00\x00", 2},
		{[]string{"a"}, "\x01a\x00", 3},
		{[]string{"a", "a"}, "\x01a\x00\xc0\x00", 6},
		{[]string{"", "a", "", "a", ""}, "\x00\x01a\x00\x00\xc0\x01\x00", 9},
		{[]string{"a.b", "c.a.b", "b", ""}, "\x01a\x01b\x00\x01c\xc0\x00\xc0\x02\x00", 16},
		{[]string{"b", "a.b", "c.a.b", "d.c.a.b"}, "\x01b\x00\x01a\xc0\x00\x01c\xc0\x03\x01d\xc0\x07", 24},
		{[]string{"a.zone", "b.zone", "zone", "c.zone"}, "\x01a\x04zone\x00\x01b\xc0\x02\xc0\x02\x01c\xc0\x02", 30},
		{[]string{"ab", "b", "a.b"}, "\x02ab\x00\x01b\x00\x01a\xc0\x04", 12},
		{[]string{"a.b", "a"}, "\x01a\x01b\x00\x01a\x00", 8},
		{[]string{"a.a", "a.a.a", "a"}, "\x01a\x01a\x00\x01a\xc0\x00\xc0\x02", 15},
		{[]string{"a.b.c.d.e.f", "c.d.e.f"}, "\x01a\x01b\x01c\x01d\x01e\x01f\x00\xc0\x04", 22},
		{[]string{"zzzzzzzzzzzz"}, "\x0czzzzzzzzzzzz\x00", 14},
	} {
		if got, plain := impl.Packed(known.list), impl.Plain(known.list); got != known.packed || plain != known.plain {
			t.Errorf("%q: Packed %q, Plain %d", known.list, got, plain)
		}
		if list, ok := impl.Unpacked(known.packed); !ok || !slices.Equal(list, known.list) {
			t.Errorf("%q: Unpacked %q, %v", known.packed, list, ok)
		}
	}
	if list, ok := impl.Unpacked(impl.Packed(nil)); !ok || len(list) != 0 || impl.Plain(nil) != 0 {
		t.Error("the list of none", list, ok)
	}
}

// Promise 6: Unpacked of Packed are the names, in no more bytes than Plain.
func TestPromise6ThereAndBack(t *testing.T) {
	for _, list := range someLists() {
		packed, plain := impl.Packed(list), impl.Plain(list)
		if got, ok := impl.Unpacked(packed); !ok || !slices.Equal(got, list) {
			t.Fatalf("%q, packed %q: Unpacked %q, %v", list, packed, got, ok)
		}
		if size := int64(len(packed)); size > plain || (size == plain) != restsOnce(list) {
			t.Fatalf("%q: %d bytes, %d plain", list, size, plain)
		}
	}
}

func TestPackedAsTheChapterSays(t *testing.T) {
	for _, list := range someLists() {
		if got, want := impl.Packed(list), packedBySearch(list); got != want {
			t.Fatalf("%q: %q, not %q", list, got, want)
		}
		if got, want := impl.Plain(list), plainByLengths(list); got != want {
			t.Fatalf("%q: Plain %d, not %d", list, got, want)
		}
	}
}

// Names one more at a time: what was packed stays, and what comes behind it is taken or not at a name's end alone.
func TestPackedGoesOn(t *testing.T) {
	for _, list := range slices.Concat(edgeLists(), drawnLists()[:200]) {
		whole := impl.Packed(list)
		ends := map[int]int{}
		for n := range len(list) + 1 {
			part := impl.Packed(list[:n])
			if !strings.HasPrefix(whole, part) {
				t.Fatalf("%q: the first %d are packed as %q", list, n, part)
			}
			ends[len(part)] = n
		}
		for cut := range len(whole) + 1 {
			got, ok := impl.Unpacked(whole[:cut])
			n, end := ends[cut]
			if ok != end || end && !slices.Equal(got, list[:n]) || !ok && len(got) != 0 {
				t.Fatalf("%q cut at %d: %q, %v", whole, cut, got, ok)
			}
		}
	}
}

func TestPackGreatest(t *testing.T) {
	list := apartNames(20)
	packed := impl.Packed(list)
	if len(packed) != 1240 || impl.Plain(list) != 1240 {
		t.Fatalf("%d bytes, %d plain", len(packed), impl.Plain(list))
	}
	if got, ok := impl.Unpacked(packed); !ok || !slices.Equal(got, list) {
		t.Fatal(got, ok)
	}
	for _, more := range []string{"\x00", "\xc0\x00", "\x01a\x00", "\x01a\xc0\x00", "a", "\x01", "\xff\xff"} {
		askIsNotPacked(t, packed+more)
	}
	list[19] = "last-018"
	// 18 names of 62 bytes, and 52 of the four labels ahead of the last one: 4 times 256 and 144.
	if got, want := impl.Packed(list), packed[:1178]+"\xc4\x90"; got != want {
		t.Errorf("the last bytes are %q", got[1178:])
	}
}

// Pairs on both sides of each 256: which byte tells what.
func TestPackPlaces(t *testing.T) {
	t.Parallel()
	for place := range 238 {
		list := atPlace(place)
		if len(list) > 20 {
			continue
		}
		packed := impl.Packed(list)
		if want := "\x01x\xc0" + string([]byte{byte(place)}); !strings.HasSuffix(packed, want) {
			t.Fatalf("place %d: %q", place, packed)
		}
		askUnpacked(t, packed)
	}
	seen := 0
	for place := range 1117 {
		if place/62+place%62 > 18 {
			continue
		}
		packed := impl.Packed(longAtPlace(place))
		if want := string([]byte{1, 'x', byte(192 + place/256), byte(place % 256)}); !strings.HasSuffix(packed, want) {
			t.Fatalf("place %d: %q", place, packed)
		}
		askUnpacked(t, packed)
		for other := range 256 {
			askUnpacked(t, packed[:len(packed)-1]+string([]byte{byte(other)}))
			askUnpacked(t, packed[:len(packed)-2]+string([]byte{byte(other), packed[len(packed)-1]}))
		}
		seen++
	}
	if seen < 100 {
		t.Fatalf("%d places", seen)
	}
}

// Wrong lists: empty of Packed, -1 of Plain.
func TestPackNoNames(t *testing.T) {
	ask := func(list []string) {
		if packed, plain := impl.Packed(list), impl.Plain(list); packed != "" || plain != -1 {
			t.Errorf("%.300q: Packed %q, Plain %d", list, packed, plain)
		}
	}
	for _, bad := range noNames() {
		ask([]string{bad})
		ask([]string{bad, "a", "b.a"})
		ask([]string{"a", bad, "b.a"})
		ask([]string{"a", "b.a", bad})
		ask([]string{bad, bad})
		ask([]string{"", bad, ""})
		ask(append(apartNames(19), bad))
		ask(append([]string{bad}, apartNames(20)...))
	}
	for _, count := range []int{21, 22, 40, 256, 257, 276, 5000} {
		ask(slices.Repeat([]string{""}, count))
		ask(slices.Repeat([]string{"a"}, count))
		ask(apartNames(count))
		ask(slices.Repeat([]string{"A"}, count))
	}
	for _, name := range append(edgeNames(), "x.y") {
		if full := slices.Repeat([]string{name}, 20); impl.Packed(full) == "" || impl.Plain(full) != plainByLengths(full) {
			t.Errorf("20 times %q", name)
		}
		ask(slices.Repeat([]string{name}, 21))
	}
}

// Wrong texts, each wrong in one thing.
func TestUnpackedTakesNothingElse(t *testing.T) {
	long := strings.Repeat("\x0czzzzzzzzzzzz", 4)
	for what, texts := range map[string][]string{
		"cut short":                {"\x01", "\x01a", "\x02a", "\x02a\x00", "\x01a\x01", "\x01a\x01b", "\x01a\x00\x01", "\x01a\x00\x01b", "\x0czzzzzzzzzzzz", "\x0czzzzzzzzzzz", "\x0czzzzzzzzzzz\x00", "\x05a"},
		"a length of none":         {"\x0dzzzzzzzzzzzzz\x00", "\x0d", "\x40", "\x3fa\x00", "\x7fa\x00", "\x80a\x00", "\xbfa\x00", "a\x00", "a", "\x01a\x0dzzzzzzzzzzzzz\x00", "\x01a\xbf\x00", "\x01a\x00\xbf\x00", "\x01a\x00\x80\x00", "\x01a\x00\x40\x00"},
		"too short a length":       {"\x01ab\x00", "\x02abc\x00", "\x00a\x00", "\x0bzzzzzzzzzzzz\x00"},
		"too great a length":       {"\x02a\x00", "\x03a\x01b\x00", "\x02a\x01b\x00", "\x05a\x00\x01b\x00"},
		"a byte of no label":       {"\x01.\x00", "\x03a.b\x00", "\x01A\x00", "\x01*\x00", "\x01 \x00", "\x01_\x00", "\x01\x00\x00", "\x01\x01\x00", "\x02a\x80\x00", "\x01\xff\x00", "\x02\xc3\xa4\x00", "\x01a\x01B\x00", "\x02\xc0\x00\x00", "\x01a\x00\x01B\xc0\x00"},
		"leads to itself":          {"\xc0\x00", "\x00\xc0\x01", "\x01a\xc0\x02", "\x01a\x00\xc0\x03", "\x01a\x00\x01b\xc0\x05", "\x01a\xc0\x00", "\x01a\x01b\xc0\x00", "\x01a\x01b\xc0\x02", "\x01a\x00\x01b\xc0\x03", "\xc0\x00\xc0\x00"},
		"leads ahead":              {"\xc0\x02\x01a\x00", "\x01a\xc0\x04\x01b\x00", "\xc0\x02\xc0\x00", "\xc0\x01\x00", "\xc0\x02\x00", "\x01a\x00\xc0\x05\x01b\x00", "\x01a\x00\xc0\x04", "\x01a\x00\x01b\xc0\x07\x01c\x00"},
		"leads into a label":       {"\x01a\x00\xc0\x01", "\x02ab\x00\xc0\x02", "\x01a\x00\x01b\xc0\x01", "\x0cabcdefghijkl\x00\xc0\x05"},
		"leads to a byte 0":        {"\x01a\x00\xc0\x02", "\x00\xc0\x00", "\x01a\x00\x01b\xc0\x02", "\x00\x01a\xc0\x00", "\x00\x00\xc0\x01"},
		"leads into a pair":        {"\x01a\x00\xc0\x00\xc0\x04", "\x01a\x00\x01b\xc0\x00\xc0\x06", "\x00\x01a\x00\xc0\x01\xc0\x05"},
		"leads to a pair":          {"\x01a\x00\xc0\x00\xc0\x03", "\x01a\x00\x01b\xc0\x00\xc0\x05", "\x01a\x00\x01b\xc0\x00\x01c\xc0\x05"},
		"leads behind the end":     {"\x01a\x00\xc0\x05", "\x01a\x00\xc0\xff", "\x01a\x00\xc1\x00", "\x01a\x00\xff\xff", "\xff\xff", "\x01a\x00\x01b\xff\xff", "\x01a\xff\xff"},
		"a pair cut in two":        {"\xc0", "\xff", "\x00\xc0", "\x01a\x00\xc0", "\x01a\xc0", "\x01a\x00\x01b\xc0", "\x01a\x00\xc0\x00\xc0"},
		"said again":               {"\x01a\x00\x01a\x00", "\x01a\x00\x00\x01a\x00", "\x01a\x01b\x00\x01b\x00", "\x01b\x00\x01a\x01b\x00", "\x01a\x01b\x00\x01a\x01b\x00", "\x01a\x01b\x00\x01a\xc0\x02", "\x01a\x01b\x00\x01c\x01a\xc0\x02", "\x01a\x01b\x00\x01c\x01b\x00"},
		"not the least place":      {"\x01a\x00\x01a\x00\xc0\x03", "\x01a\x01b\x00\x01c\x01b\x00\xc0\x07", "\x01a\x01b\x00\x01a\xc0\x02\xc0\x05"},
		"a byte 0 behind a pair":   {"\x01a\x00" + strings.Repeat("\xc0\x00\x00", 10), "\x01a\x00\x01b\xc0\x00\x01"},
		"a seventh label":          {"\x01a\x01b\x01c\x01d\x01e\x01f\x01g\x00", "\x01a\x01b\x01c\x01d\x01e\x01f\x00\x01g\xc0\x00", "\x01a\x01b\x01c\x01d\x01e\x00\x01f\x01g\xc0\x00", strings.Repeat("\x01a", 600) + "\x00"},
		"more than 60 bytes":       {long + "\x09123456789\x00", long + "\x0czzzzzzzzzzzz\x00", long + "\x00\x09123456789\xc0\x00", long + "\x0812345678\x00\x01a\xc0\x00", long + "\x00\x071234567\x011\xc0\x00"},
		"more than 20 names":       {strings.Repeat("\x00", 21), strings.Repeat("\x00", 22), strings.Repeat("\x00", 70000), "\x01a\x00" + strings.Repeat("\xc0\x00", 20), impl.Packed(apartNames(20)) + "\x00"},
		"no name at the end":       {"\x01a\x00a", "\x01a\x00\x0d", "\x01a\x00\xff", "\x01a\x00\x02b\x00", "\x00\x01", "\x00\x40", "\x01a\x00\xc0\x00\xbf"},
		"neither length nor label": {"abc", "a.b", "a", " ", ".", "\n", "*", "\u00e9", "\ufeff", strings.Repeat("a", 100000), strings.Repeat("\xff", 100000), strings.Repeat("\xc0\x00", 50000), strings.Repeat("\x0c", 100000)},
	} {
		for _, s := range texts {
			t.Run(what, func(t *testing.T) { askIsNotPacked(t, s) })
		}
	}
	for _, s := range []string{"", "\x00", strings.Repeat("\x00", 20), "\x01a\x00" + strings.Repeat("\xc0\x00", 19), long + "\x0812345678\x00", long + "\x00\x0812345678\xc0\x00", "\x01a\x01b\x01c\x01d\x01e\x01f\x00", "\x01a\x01b\x01c\x01d\x01e\x00\x01g\xc0\x00"} {
		if list, ok := impl.Unpacked(s); !ok || impl.Packed(list) != s {
			t.Errorf("%q: %q, %v", s, list, ok)
		}
	}
}

// A byte changed, at each place and to each byte.
func TestUnpackedEachByteChanged(t *testing.T) {
	t.Parallel()
	for _, list := range slices.Concat(edgeLists(), drawnLists()[:40]) {
		if text := impl.Packed(list); len(text) <= 100 {
			eachByteChanged(text, func(changed string) { askUnpacked(t, changed) })
		}
	}
}

// The same of long lists: what is taken must be what Packed makes of the names that are answered.
func TestUnpackedEachByteOfLongListsChanged(t *testing.T) {
	t.Parallel()
	for _, list := range [][]string{append(apartNames(18), "last-016", "x.dddddddddddd.last-017"), longAtPlace(512)} {
		taken := 0
		eachByteChanged(impl.Packed(list), func(changed string) {
			names, ok := impl.Unpacked(changed)
			if ok && impl.Packed(names) != changed || !ok && len(names) != 0 {
				t.Fatalf("%q: %q, %v", changed, names, ok)
			}
			if ok {
				taken++
			}
		})
		if taken == 0 {
			t.Fatalf("%q: nothing is taken", list)
		}
	}
}

func eachByteChanged(text string, ask func(string)) {
	changed := []byte(text)
	for at := range changed {
		for b := range 256 {
			changed[at] = byte(b)
			ask(string(changed))
		}
		changed[at] = text[at]
	}
}

// A byte more or less, at each place.
func TestUnpackedByteMoreOrLess(t *testing.T) {
	t.Parallel()
	for _, list := range append(shortLists(2), drawnLists()[:60]...) {
		text := impl.Packed(list)
		for at := range len(text) + 1 {
			for _, b := range []string{"", "\x00", "\x01", "\x02", "\x0c", "\x0d", "a", "b", ".", "\x40", "\xbf", "\xc0", "\xc1", "\xff", "\x00\x00", "\xc0\x00", "\xc0\x01", "\xc0\x02", "\x01a", "\x01b"} {
				askUnpacked(t, text[:at]+b+text[at:])
				askUnpacked(t, text[:at]+b+text[min(at+1, len(text)):])
				askUnpacked(t, text[:at]+b+text[min(at+2, len(text)):])
			}
		}
	}
}

// All texts of at most 7 bytes out of a few: what is taken is what the lists of names are packed as, found from the lists alone.
func TestUnpackedEachShortText(t *testing.T) {
	const most = 7
	names := []string{}
	for _, name := range textsOf([]byte("ab."), most-2) {
		if nameByPattern(name) {
			names = append(names, name)
		}
	}
	made := map[string][]string{"": {}}
	open := [][]string{{}}
	for len(open) > 0 {
		list := open[0]
		open = open[1:]
		for _, name := range names {
			longer := append(slices.Clone(list), name)
			if packed := packedBySearch(longer); len(packed) <= most {
				made[packed] = longer
				open = append(open, longer)
			}
		}
	}
	taken := 0
	for _, text := range textsOf([]byte("\x00\x01\x02\x03ab\xc0"), most) {
		want, is := made[text]
		got, ok := impl.Unpacked(text)
		if ok != is || is && !slices.Equal(got, want) || !ok && len(got) != 0 {
			t.Fatalf("%q: %q, %v; it is made of %q, %v", text, got, ok, want, is)
		}
		if ok {
			taken++
		}
	}
	if taken < 300 {
		t.Fatalf("%d texts are taken", taken)
	}
}

// textsOf are all texts of at most so many of these bytes.
func textsOf(bytes []byte, most int) []string {
	texts := []string{""}
	for from := 0; len(texts[from]) < most; from++ {
		for _, b := range bytes {
			texts = append(texts, texts[from]+string([]byte{b}))
		}
	}
	return texts
}

// Pairs that lead on and on, or round and round with labels between: an answer comes.
func TestUnpackedAlwaysAnswers(t *testing.T) {
	back := "\x01a\x00"
	for len(back) < 16000 {
		to := len(back) - 2
		if len(back) == 3 {
			to = 0
		}
		back += string([]byte{byte(192 + to/256), byte(to % 256)})
	}
	rounds := "\x01a\x00" + strings.Repeat("\x01a\xc0\x03", 4000)
	for _, s := range []string{back, back[2:], "\x00" + back, rounds, rounds[3:], strings.Repeat("\x01a\xc0\x00", 5000), strings.Repeat("\x0caaaaaaaaaaaa\xc0\x00", 5000), strings.Repeat("\xc0\x00\x01a", 5000)} {
		if list, ok := impl.Unpacked(s); ok || len(list) != 0 {
			t.Errorf("%.40q: %q, %v", s, list, ok)
		}
	}
}

// Promise 21 of chapter 6: the lists stay as they are, the room behind them, too.
func TestPromise21PackArgumentsStay(t *testing.T) {
	lists := append(edgeLists(), []string{"A", "a", "a"}, []string{"a", ".", ""}, slices.Repeat([]string{"a.b"}, 30))
	for _, list := range lists {
		whole := append(slices.Clone(list), "room", "behind", "it")
		before := slices.Clone(whole)
		given := whole[:len(list)]
		packed, plain := impl.Packed(given), impl.Plain(given)
		if !slices.Equal(whole, before) {
			t.Fatalf("%q is %q now", before, whole)
		}
		scribbleOn(whole, "scribble")
		if got, ok := impl.Unpacked(packed); plain >= 0 && (!ok || !slices.Equal(got, list) || packed != impl.Packed(list)) {
			t.Fatalf("%q: the answer goes with the argument", list)
		}
	}
}

// Promise 21: what is written into an answer of Unpacked changes no other answer.
func TestPromise21UnpackedAnswersAreApart(t *testing.T) {
	for _, list := range edgeLists() {
		packed := impl.Packed(list)
		first, _ := impl.Unpacked(packed)
		second, _ := impl.Unpacked(packed)
		scribbleOn(first, "scribble")
		third, ok := impl.Unpacked(packed)
		if !slices.Equal(second, list) || !ok || !slices.Equal(third, list) || impl.Packed(second) != packed {
			t.Fatalf("%q: two answers share memory", list)
		}
		second = append(second, "one", "more")
		scribbleOn(second, "scribble")
		if !slices.Equal(third, list) || impl.Packed(third) != packed {
			t.Fatalf("%q: two answers share room", list)
		}
	}
	none, _ := impl.Unpacked("\xc0\x00")
	scribbleOn(append(none, "x"), "scribble")
	if again, ok := impl.Unpacked("\xc0\x00"); ok || len(again) != 0 {
		t.Errorf("%q, %v", again, ok)
	}
}

// Promise 21: each argument gets the same answer again, whatever was asked between.
func TestPromise21PackAgain(t *testing.T) {
	lists := append(edgeLists(), []string{"A"}, []string{"a", "a..b"}, slices.Repeat([]string{"a"}, 21))
	answers := func(list []string) string {
		packed := impl.Packed(list)
		back, ok := impl.Unpacked(packed)
		wrong, taken := impl.Unpacked(packed + "\x01")
		return fmt.Sprintf("%q %d %q %v %q %v", packed, impl.Plain(list), back, ok, wrong, taken)
	}
	first := []string{}
	for _, list := range lists {
		first = append(first, answers(list))
	}
	for i, list := range slices.Backward(lists) {
		if got := answers(list); got != first[i] {
			t.Fatalf("%q: %s, then %s", list, first[i], got)
		}
	}
}
