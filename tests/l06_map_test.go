package tests

import (
	"slices"
	"sort"
	"strings"
	"sync"
	"testing"

	"loop.example/g00103/impl"
)

// mapOf is the list of pairs whose Keys and Values come in turn.
func mapOf(words ...string) []impl.Pair {
	var m []impl.Pair
	for i := 0; i+1 < len(words); i += 2 {
		m = append(m, impl.Pair{Key: words[i], Value: words[i+1]})
	}
	return m
}

// mapOfMany has n Keys of three bytes, which begin with this letter.
func mapOfMany(letter string, n int, value string) []impl.Pair {
	var m []impl.Pair
	for i := range n {
		key := letter + string([]byte{byte('0' + i/10), byte('0' + i%10)})
		m = append(m, impl.Pair{Key: key, Value: value})
	}
	return m
}

func batchOfPairs(stamp int, m []impl.Pair) impl.Batch {
	b := impl.Batch{Stamp: stamp}
	for _, p := range m {
		b.Changes = append(b.Changes, set(p.Key, p.Value))
	}
	return b
}

func batchOfGone(stamp int, m []impl.Pair) impl.Batch {
	b := impl.Batch{Stamp: stamp}
	for _, p := range m {
		b.Changes = append(b.Changes, gone(p.Key))
	}
	return b
}

// plainMapOk is the document's rule, each of its words over all pairs.
func plainMapOk(m []impl.Pair) bool {
	right := len(m) < 61
	for i, p := range m {
		right = right && p.Key != "" && len(p.Key) <= 10 && len(p.Value) <= 40
		for _, later := range m[i+1:] {
			right = right && strings.Compare(p.Key, later.Key) == -1
		}
	}
	return right
}

func plainMapGet(m []impl.Pair, key string) (string, bool) {
	at := slices.IndexFunc(m, func(p impl.Pair) bool { return p.Key == key })
	if at < 0 || !plainMapOk(m) {
		return "", false
	}
	return m[at].Value, true
}

func valuesOf(m []impl.Pair) map[string]string {
	values := map[string]string{}
	for _, p := range m {
		values[p.Key] = p.Value
	}
	return values
}

func sortedPairs(values map[string]string) []impl.Pair {
	var m []impl.Pair
	for key, value := range values {
		m = append(m, impl.Pair{Key: key, Value: value})
	}
	sort.Slice(m, func(i, j int) bool { return m[i].Key < m[j].Key })
	return m
}

// plainMapDo does one change behind the other to a map of Go's.
func plainMapDo(m []impl.Pair, b impl.Batch) ([]impl.Pair, bool) {
	if !plainMapOk(m) || !plainBatchOk(b) {
		return nil, false
	}
	values := valuesOf(m)
	for _, c := range b.Changes {
		if c.Gone {
			delete(values, c.Key)
		} else {
			values[c.Key] = c.Value
		}
	}
	if len(values) > 60 {
		return nil, false
	}
	return sortedPairs(values), true
}

// plainMapBetween looks each Key of either map up in the other one.
func plainMapBetween(a, b []impl.Pair) ([]impl.Change, bool) {
	if !plainMapOk(a) || !plainMapOk(b) {
		return nil, false
	}
	before, behind := valuesOf(a), valuesOf(b)
	var changes []impl.Change
	for _, p := range a {
		if _, stays := behind[p.Key]; !stays {
			changes = append(changes, gone(p.Key))
		}
	}
	for _, p := range b {
		if value, was := before[p.Key]; !was || value != p.Value {
			changes = append(changes, set(p.Key, p.Value))
		}
	}
	if len(changes) > 60 {
		return nil, false
	}
	sort.Slice(changes, func(i, j int) bool { return changes[i].Key < changes[j].Key })
	return changes, true
}

func wantMapDone(t *testing.T, why string, m []impl.Pair, b impl.Batch) {
	t.Helper()
	want, right := plainMapDo(m, b)
	got, ok := impl.MapDo(m, b)
	if ok != right || !slices.Equal(got, want) {
		t.Errorf("%s: MapDo(%.100v, %.100v) = %.100v, %v; want %.100v, %v", why, m, b, got, ok, want, right)
	}
}

// wantMapBetween asks also that what is answered makes the one of the other.
func wantMapBetween(t *testing.T, why string, a, b []impl.Pair) {
	t.Helper()
	want, right := plainMapBetween(a, b)
	got, ok := impl.MapBetween(a, b)
	if ok != right || !slices.Equal(got, want) {
		t.Errorf("%s: MapBetween(%.100v, %.100v) = %.100v, %v; want %.100v, %v", why, a, b, got, ok, want, right)
	}
	if !right {
		return
	}
	made, ok := impl.MapDo(a, impl.Batch{Changes: got})
	if !ok || !slices.Equal(made, b) {
		t.Errorf("%s: %.100v behind what differs from %.100v is %.100v, %v", why, a, b, made, ok)
	}
}

func wantMapBatch(t *testing.T, why string, m []impl.Pair, stamp int) {
	t.Helper()
	right := plainMapOk(m) && 0 <= stamp && stamp <= 100000
	want := impl.Batch{}
	if right {
		want = batchOfPairs(stamp, m)
	}
	got, ok := impl.MapBatch(m, stamp)
	if ok != right || !sameBatch(got, want) {
		t.Errorf("%s: MapBatch(%.100v, %d) = %.100v, %v; want %.100v, %v", why, m, stamp, got, ok, want, right)
	}
	if !right {
		return
	}
	for _, nothing := range [][]impl.Pair{nil, {}} {
		if made, ok := impl.MapDo(nothing, got); !ok || !slices.Equal(made, m) {
			t.Errorf("%s: the batch of %.100v makes %.100v, %v of nothing", why, m, made, ok)
		}
	}
}

func rightMaps() map[string][]impl.Pair {
	high := strings.Repeat("\xff", 10)
	return map[string][]impl.Pair{
		"nil":                     nil,
		"an empty list":           {},
		"one":                     mapOf("a", "1"),
		"another Value":           mapOf("a", "2"),
		"an empty Value":          mapOf("a", ""),
		"some":                    mapOf("a", "1", "b", "2", "c", "3"),
		"the middle one else":     mapOf("a", "1", "b", "x", "c", "3"),
		"without the first":       mapOf("b", "2", "c", "3"),
		"without the middle":      mapOf("a", "1", "c", "3"),
		"without the last":        mapOf("a", "1", "b", "2"),
		"in between":              mapOf("aa", "1", "bb", "2"),
		"one behind":              mapOf("z", "1"),
		"a beginning ahead":       mapOf("a", "", "aa", "", "aaa", "", "ab", ""),
		"bytes of 0":              mapOf("\x00", "\x00", "\x00\x00", "\x00\x00", "\x00\x01", ""),
		"bytes above 127":         mapOf("\x7f", "\x80", "\x80", "\xff", "\xff", "", high, high),
		"letters of many bytes":   mapOf("z", "", "\u00e4", "\u20ac", "\u20ac", "\u00e4"),
		"Keys of 1 and 10 bytes":  mapOf("k", "x", letters(10), "x"),
		"Values of 0, 39 and 40":  mapOf("a", "", "b", letters(39), "c", letters(40)),
		"Values alike":            mapOf("a", "x", "b", "x", "c", "x"),
		"MaxPairs":                mapOfMany("k", 60, "v"),
		"MaxPairs of other Keys":  mapOfMany("l", 60, "v"),
		"MaxPairs, other Values":  mapOfMany("k", 60, letters(40)),
		"one pair fewer":          mapOfMany("k", 59, "v"),
		"half of them":            mapOfMany("k", 30, "v"),
		"half of other Keys":      mapOfMany("l", 30, "v"),
		"half of them and a pair": mapOfMany("k", 31, "v"),
	}
}

func wrongMaps() map[string][]impl.Pair {
	return map[string][]impl.Pair{
		"a pair too many":          mapOfMany("k", 61, "v"),
		"a hundred":                mapOfMany("k", 100, "v"),
		"an empty Key":             mapOf("", "x"),
		"an empty Key and a right": mapOf("", "x", "a", "x"),
		"an empty Key behind":      mapOf("a", "x", "", "x"),
		"a zero pair":              make([]impl.Pair, 1),
		"a Key of 11 bytes":        mapOf(letters(11), "x"),
		"a Key of 11 bytes, last":  mapOf("a", "x", letters(11), "x"),
		"a Key far too long":       mapOf(letters(20001), "x"),
		"a Value of 41 bytes":      mapOf("a", letters(41)),
		"of 41 bytes, last":        mapOf("a", "x", "b", letters(41)),
		"a Value far too long":     mapOf("a", letters(20001)),
		"two Keys alike":           mapOf("a", "x", "a", "y"),
		"two pairs alike":          mapOf("a", "x", "a", "x"),
		"alike at the end":         mapOf("a", "x", "b", "x", "b", "x"),
		"alike at a distance":      mapOf("a", "x", "b", "x", "a", "x"),
		"the other way round":      mapOf("b", "x", "a", "x"),
		"last the other way round": mapOf("a", "x", "c", "x", "b", "x"),
		"a beginning behind":       mapOf("aa", "x", "a", "x"),
		"above 127 ahead":          mapOf("\x80", "x", "\x7f", "x"),
		"many bytes ahead":         mapOf("\u00e4", "x", "z", "x"),
	}
}

func TestMapLimits(t *testing.T) {
	if impl.MaxPairs != 60 {
		t.Error("MaxPairs is not the document's")
	}
}

func TestMapOk(t *testing.T) {
	for why, m := range rightMaps() {
		if !plainMapOk(m) || !impl.MapOk(m) {
			t.Errorf("%s: MapOk is false", why)
		}
	}
	for why, m := range wrongMaps() {
		if plainMapOk(m) || impl.MapOk(m) {
			t.Errorf("%s: MapOk is true", why)
		}
	}
	for a := range 256 {
		for b := range 256 {
			two := mapOf(string([]byte{byte(a)}), "x", string([]byte{byte(b)}), "x")
			if ok := impl.MapOk(two); ok != (a < b) {
				t.Errorf("MapOk of the Keys %d and %d = %v", a, b, ok)
			}
		}
	}
	for size := range 60 {
		if ok := impl.MapOk(mapOf(letters(size), "x")); ok != (1 <= size && size <= 10) {
			t.Errorf("MapOk of a Key of %d bytes = %v", size, ok)
		}
		if ok := impl.MapOk(mapOf("a", letters(size))); ok != (size <= 40) {
			t.Errorf("MapOk of a Value of %d bytes = %v", size, ok)
		}
		if !impl.MapOk(mapOfMany("k", size, "v")) || impl.MapOk(mapOfMany("k", 61+size%39, "v")) {
			t.Errorf("MapOk of %d or of %d pairs", size, 61+size%39)
		}
	}
}

func wantGot(t *testing.T, why string, m []impl.Pair, key string) {
	t.Helper()
	want, right := plainMapGet(m, key)
	if got, ok := impl.MapGet(m, key); ok != right || got != want {
		t.Errorf("%s: MapGet(%.100v, %.20q) = %q, %v; want %q, %v", why, m, key, got, ok, want, right)
	}
}

func TestMapGet(t *testing.T) {
	some := mapOf("a", "1", "b", "", "bb", "3")
	for _, c := range []struct {
		key, value string
		ok         bool
	}{
		{"a", "1", true}, {"b", "", true}, {"bb", "3", true},
		{"", "", false}, {"A", "", false}, {"aa", "", false}, {"bbb", "", false},
		{"c", "", false}, {"1", "", false}, {"a\x00", "", false}, {letters(11), "", false},
	} {
		if got, ok := impl.MapGet(some, c.key); got != c.value || ok != c.ok {
			t.Errorf("MapGet(%v, %.20q) = %q, %v; want %q, %v", some, c.key, got, ok, c.value, c.ok)
		}
	}
	maps := wrongMaps()
	for why, m := range rightMaps() {
		maps["right: "+why] = m
	}
	for why, m := range maps {
		for _, p := range m {
			wantGot(t, why, m, p.Key)
			wantGot(t, why, m, p.Key+"\x00")
			wantGot(t, why, m, p.Key[:max(len(p.Key)-1, 0)])
			wantGot(t, why, m, p.Value)
		}
		wantGot(t, why, m, "")
		wantGot(t, why, m, "no such")
		wantGot(t, why, m, letters(20001))
	}
}

func TestMapDoneBehindChanges(t *testing.T) {
	some := mapOf("b", "1", "d", "2", "f", "3")
	for _, c := range []struct {
		changes []impl.Change
		want    []impl.Pair
	}{
		{nil, some},
		{[]impl.Change{}, some},
		{[]impl.Change{set("b", "1")}, some},
		{[]impl.Change{set("b", "9")}, mapOf("b", "9", "d", "2", "f", "3")},
		{[]impl.Change{set("d", "")}, mapOf("b", "1", "d", "", "f", "3")},
		{[]impl.Change{set("a", "9")}, mapOf("a", "9", "b", "1", "d", "2", "f", "3")},
		{[]impl.Change{set("c", "9")}, mapOf("b", "1", "c", "9", "d", "2", "f", "3")},
		{[]impl.Change{set("g", "9")}, mapOf("b", "1", "d", "2", "f", "3", "g", "9")},
		{[]impl.Change{set("bb", "9")}, mapOf("b", "1", "bb", "9", "d", "2", "f", "3")},
		{[]impl.Change{gone("b")}, mapOf("d", "2", "f", "3")},
		{[]impl.Change{gone("d")}, mapOf("b", "1", "f", "3")},
		{[]impl.Change{gone("f")}, mapOf("b", "1", "d", "2")},
		{[]impl.Change{gone("a")}, some},
		{[]impl.Change{gone("c")}, some},
		{[]impl.Change{gone("g")}, some},
		{[]impl.Change{gone("b"), gone("d"), gone("f")}, nil},
		{[]impl.Change{set("a", "9"), gone("b"), set("c", "8"), gone("f"), set("g", "7")},
			mapOf("a", "9", "c", "8", "d", "2", "g", "7")},
	} {
		for _, stamp := range []int{0, 1, 100000} {
			got, ok := impl.MapDo(some, impl.Batch{Stamp: stamp, Changes: c.changes})
			if !ok || !slices.Equal(got, c.want) {
				t.Errorf("MapDo(%v, %v) = %v, %v; want %v", some, c.changes, got, ok, c.want)
			}
		}
	}
}

func TestMapDoneToEachMap(t *testing.T) {
	for why, m := range rightMaps() {
		for kind, b := range rightBatches() {
			wantMapDone(t, why+", "+kind, m, b)
		}
		for kind, other := range rightMaps() {
			wantMapDone(t, why+", puts "+kind, m, batchOfPairs(1, other))
			wantMapDone(t, why+", drops "+kind, m, batchOfGone(1, other))
		}
	}
}

func wantNotDone(t *testing.T, why string, m []impl.Pair, b impl.Batch) {
	t.Helper()
	if got, ok := impl.MapDo(m, b); ok || len(got) != 0 {
		t.Errorf("%s: MapDo = %.100v, %v; want nothing, false", why, got, ok)
	}
}

func TestMapNotDone(t *testing.T) {
	for why, m := range wrongMaps() {
		wantNotDone(t, why, m, impl.Batch{})
		wantNotDone(t, why, m, batchOf(1, set("a", "x")))
		wantNotDone(t, why+", all gone", m, batchOf(1, gone("a"), gone("b"), gone("c")))
		wantNotDone(t, why+", wrong batch", m, batchOf(-1))
	}
	for why, b := range wrongBatches() {
		wantNotDone(t, why, nil, b)
		wantNotDone(t, why, mapOf("a", "1"), b)
		wantNotDone(t, why, mapOfMany("k", 60, "v"), b)
	}
}

func TestMapDoneUpToMaxPairs(t *testing.T) {
	full, one := mapOfMany("k", 60, "v"), batchOf(1, set("z", "x"))
	wantNotDone(t, "one more behind", full, one)
	wantNotDone(t, "one more ahead", full, batchOf(1, set("a", "x")))
	wantNotDone(t, "one more in between", full, batchOf(1, set("k300", "x")))
	wantNotDone(t, "half and more than half", mapOfMany("k", 30, "v"), batchOfPairs(1, mapOfMany("l", 31, "v")))
	wantNotDone(t, "two full ones", full, batchOfPairs(1, mapOfMany("l", 60, "v")))
	wantNotDone(t, "one for one that is not there", full, batchOf(1, gone("a"), set("z", "x")))
	for n := range 61 {
		for _, more := range []int{60 - n, 61 - n} {
			wantMapDone(t, "so many", mapOfMany("k", n, "v"), batchOfPairs(1, mapOfMany("l", min(more, 60), "v")))
		}
	}
	for why, b := range map[string]impl.Batch{
		"one for the first":     batchOf(1, gone("k00"), set("z", "x")),
		"one for the last":      batchOf(1, set("a", "x"), gone("k59")),
		"all with other Values": batchOfPairs(1, mapOfMany("k", 60, "w")),
		"all gone":              batchOfGone(1, full),
	} {
		if _, ok := impl.MapDo(full, b); !ok {
			t.Errorf("%s: MapDo of MaxPairs is false", why)
		}
		wantMapDone(t, why, full, b)
	}
	if got, ok := impl.MapDo(full[:59], one); !ok || len(got) != 60 {
		t.Errorf("MapDo up to MaxPairs = %d pairs, %v", len(got), ok)
	}
}

func TestMapBatch(t *testing.T) {
	least := -1 << 63
	stamps := []int{0, 1, 5, 99999, 100000, -1, 100001, least, -(least + 1)}
	for _, stamp := range stamps {
		for why, m := range rightMaps() {
			wantMapBatch(t, why, m, stamp)
		}
		for why, m := range wrongMaps() {
			if b, ok := impl.MapBatch(m, stamp); ok || !noBatch(b) {
				t.Errorf("%s: MapBatch with %d = %.100v, %v; want nothing, false", why, stamp, b, ok)
			}
		}
	}
	for _, stamp := range []int{-1, 100001, least, -(least + 1)} {
		if b, ok := impl.MapBatch(mapOf("a", "1"), stamp); ok || !noBatch(b) {
			t.Errorf("MapBatch with %d = %v, %v; want nothing, false", stamp, b, ok)
		}
	}
	want := batchOf(7, set("a", "1"), set("b", ""))
	if b, ok := impl.MapBatch(mapOf("a", "1", "b", ""), 7); !ok || !sameBatch(b, want) {
		t.Errorf("MapBatch = %v, %v; want %v", b, ok, want)
	}
}

func TestBatchesOfMapsAreRight(t *testing.T) {
	for why, m := range rightMaps() {
		b, _ := impl.MapBatch(m, 100000)
		if !impl.BatchOk(b) {
			t.Errorf("%s: its batch is not right", why)
		}
		comesBack(t, why, b)
	}
}

func TestLeastChanges(t *testing.T) {
	some := mapOf("b", "1", "d", "2", "f", "3")
	for _, c := range []struct {
		to   []impl.Pair
		want []impl.Change
	}{
		{some, nil},
		{mapOf("b", "9", "d", "2", "f", "3"), []impl.Change{set("b", "9")}},
		{mapOf("b", "1", "d", "", "f", "3"), []impl.Change{set("d", "")}},
		{mapOf("b", "1", "d", "2", "f", "33"), []impl.Change{set("f", "33")}},
		{mapOf("d", "2", "f", "3"), []impl.Change{gone("b")}},
		{mapOf("b", "1", "f", "3"), []impl.Change{gone("d")}},
		{mapOf("b", "1", "d", "2"), []impl.Change{gone("f")}},
		{mapOf("a", "9", "b", "1", "d", "2", "f", "3"), []impl.Change{set("a", "9")}},
		{mapOf("b", "1", "c", "", "d", "2", "f", "3"), []impl.Change{set("c", "")}},
		{mapOf("b", "1", "d", "2", "f", "3", "ff", "9"), []impl.Change{set("ff", "9")}},
		{nil, []impl.Change{gone("b"), gone("d"), gone("f")}},
		{mapOf("a", "1", "c", "2", "f", "3"), []impl.Change{set("a", "1"), gone("b"), set("c", "2"), gone("d")}},
		{mapOf("b", "2", "d", "1", "f", "3"), []impl.Change{set("b", "2"), set("d", "1")}},
	} {
		if got, ok := impl.MapBetween(some, c.to); !ok || !slices.Equal(got, c.want) {
			t.Errorf("MapBetween(%v, %v) = %v, %v; want %v", some, c.to, got, ok, c.want)
		}
		wantMapBetween(t, "back", c.to, some)
	}
}

func TestMapsBetweenEachTwo(t *testing.T) {
	for why, a := range rightMaps() {
		for whither, b := range rightMaps() {
			wantMapBetween(t, why+" to "+whither, a, b)
		}
		if changes, ok := impl.MapBetween(a, slices.Clone(a)); !ok || len(changes) != 0 {
			t.Errorf("%s: between itself and itself stand %v, %v", why, changes, ok)
		}
		if changes, ok := impl.MapBetween(nil, a); !ok || len(changes) != len(a) {
			t.Errorf("%s: from nothing there are %d changes, %v", why, len(changes), ok)
		}
		if changes, ok := impl.MapBetween(a, []impl.Pair{}); !ok || len(changes) != len(a) {
			t.Errorf("%s: to nothing there are %d changes, %v", why, len(changes), ok)
		}
	}
}

func wantNotBetween(t *testing.T, why string, a, b []impl.Pair) {
	t.Helper()
	if got, ok := impl.MapBetween(a, b); ok || len(got) != 0 {
		t.Errorf("%s: MapBetween = %.100v, %v; want nothing, false", why, got, ok)
	}
}

func TestMapsNotBetween(t *testing.T) {
	for why, wrong := range wrongMaps() {
		wantNotBetween(t, why+", itself", wrong, wrong)
		for kind, right := range rightMaps() {
			wantNotBetween(t, why+", "+kind, wrong, right)
			wantNotBetween(t, kind+", "+why, right, wrong)
		}
	}
}

func TestMapsBetweenUpToMaxChanges(t *testing.T) {
	full, other := mapOfMany("k", 60, "v"), mapOfMany("l", 60, "v")
	for n := range 61 {
		for m := range 61 {
			changes, ok := impl.MapBetween(full[:n], other[:m])
			if ok != (n+m <= 60) || ok && len(changes) != n+m || !ok && len(changes) != 0 {
				t.Errorf("between %d and %d other Keys stand %d changes, %v", n, m, len(changes), ok)
			}
		}
	}
	wantNotBetween(t, "one more", full, other[:1])
	wantNotBetween(t, "one more from", full[:1], other)
	wantNotBetween(t, "two full ones", full, other)
	wantMapBetween(t, "all with other Values", full, mapOfMany("k", 60, "w"))
	wantMapBetween(t, "one else, 59 other Values", full, append(mapOfMany("k", 59, "w"), impl.Pair{Key: "k59"}))
	most := append(mapOfMany("k", 59, "w"), impl.Pair{Key: "l", Value: "v"})
	wantNotBetween(t, "59 other Values, one gone and one come", full, most)
	most[0].Value = "v"
	wantMapBetween(t, "58 other Values, one gone and one come", full, most)
	if changes, ok := impl.MapBetween(full, most); !ok || len(changes) != 60 {
		t.Errorf("there are %d changes, %v; want MaxChanges", len(changes), ok)
	}
}

// drawnMap has Keys of which two maps are likely to share some.
func drawnMap(d *drawing, keys int) []impl.Pair {
	values := map[string]string{}
	for range d.below([]int{4, 20, 90}[d.below(3)]) {
		at := d.below(keys)
		key := string([]byte{byte(at % 7 * 41), byte(at / 7)})[:1+at%2]
		values[key] = []string{"", "1", "2", letters(40)}[d.below(4)]
	}
	return sortedPairs(values)
}

// spoiled is m with one thing that may not be so, most of the time.
func spoiled(d *drawing, m []impl.Pair) []impl.Pair {
	m = slices.Clone(m)
	if len(m) == 0 {
		return mapOf("", "")
	}
	at := d.below(len(m))
	switch d.below(5) {
	case 0:
		m[at].Key = ""
	case 1:
		m[at].Key += letters(d.below(12))
	case 2:
		m[at].Value += letters(d.below(42))
	case 3:
		m[at], m[0] = m[0], m[at]
	case 4:
		m[at].Key = m[d.below(len(m))].Key
	}
	return m
}

func TestDrawnMaps(t *testing.T) {
	d := &drawing{state: 7}
	between, refused := 0, 0
	for range 6000 {
		keys := []int{10, 60, 200}[d.below(3)]
		a, b := drawnMap(d, keys), drawnMap(d, keys)
		if d.below(5) == 0 {
			a = spoiled(d, a)
		}
		if d.below(5) == 0 {
			b = spoiled(d, b)
		}
		if impl.MapOk(a) != plainMapOk(a) {
			t.Errorf("MapOk(%.200v) = %v", a, impl.MapOk(a))
		}
		wantMapBetween(t, "drawn", a, b)
		wantMapBetween(t, "drawn, the other way", b, a)
		wantMapBatch(t, "drawn", a, d.below(100000+100))
		if _, ok := impl.MapBetween(a, b); ok {
			between++
		} else {
			refused++
		}
		for _, p := range a {
			wantGot(t, "drawn", b, p.Key)
		}
	}
	if between < 1000 || refused < 1000 {
		t.Errorf("%d of the drawn ones are answered, %d refused", between, refused)
	}
}

func TestDrawnBatchesDoneToDrawnMaps(t *testing.T) {
	d := &drawing{state: 8}
	done, refused := 0, 0
	for range 6000 {
		keys := []int{10, 60, 200}[d.below(3)]
		m := drawnMap(d, keys)
		if d.below(8) == 0 {
			m = spoiled(d, m)
		}
		b := batchOfPairs(d.below(100000+100), drawnMap(d, keys))
		for at := range b.Changes {
			if d.below(3) == 0 {
				b.Changes[at].Gone = true
				b.Changes[at].Value = letters(d.below(150) / 149)
			}
		}
		wantMapDone(t, "drawn", m, b)
		wantMapDone(t, "a drawn batch of any bytes", m, drawnBatch(d))
		if _, ok := impl.MapDo(m, b); ok {
			done++
		} else {
			refused++
		}
	}
	if done < 1000 || refused < 300 {
		t.Errorf("%d of the drawn ones are done, %d refused", done, refused)
	}
}

func TestArgumentsOfMapsStay(t *testing.T) {
	room := mapOf("b", "1", "d", "2", "f", "3", "spare", "room", "z", "more")
	other := mapOf("a", "1", "d", "9", "g", "3", "spare", "room", "z", "more")
	changes := []impl.Change{set("a", "x"), gone("b"), set("g", "y"), set("spare", "room"), gone("more")}
	keptRoom, keptOther, keptChanges := slices.Clone(room), slices.Clone(other), slices.Clone(changes)
	for _, n := range []int{0, 1, 2, 3} {
		m, b := room[:n], impl.Batch{Stamp: 2, Changes: changes[:n]}
		for _, stamp := range []int{2, -1} {
			b.Stamp = stamp
			impl.MapDo(m, b)
			impl.MapDo(m, impl.Batch{Stamp: stamp})
			impl.MapDo(nil, b)
			impl.MapBatch(m, stamp)
		}
		impl.MapOk(m)
		impl.MapGet(m, "d")
		impl.MapBetween(m, other[:3])
		impl.MapBetween(other[:n], room[:3])
	}
	if !slices.Equal(room, keptRoom) || !slices.Equal(other, keptOther) || !slices.Equal(changes, keptChanges) {
		t.Errorf("an argument is another now: %v, %v, %v", room, other, changes)
	}
}

// newWords is new memory for each of the words.
func newWords(words ...string) []string {
	var fresh []string
	for _, w := range words {
		fresh = append(fresh, strings.Clone(w))
	}
	return fresh
}

// wantOwn asks that none of the texts is a piece of one of those handed in.
func wantOwn(t *testing.T, why string, texts, handed []string) {
	t.Helper()
	for _, text := range texts {
		for _, h := range handed {
			if within(text, h) {
				t.Errorf("%s answers memory of its argument: %q", why, text)
			}
		}
	}
}

func pairTexts(m []impl.Pair) []string {
	var texts []string
	for _, p := range m {
		texts = append(texts, p.Key, p.Value)
	}
	return texts
}

func changeTexts(changes []impl.Change) []string {
	var texts []string
	for _, c := range changes {
		texts = append(texts, c.Key, c.Value)
	}
	return texts
}

func TestAnswersOfMapsAreNewMemory(t *testing.T) {
	words := newWords("key", "value", "longer", letters(40))
	m := mapOf(words...)
	value, _ := impl.MapGet(m, words[0])
	wantOwn(t, "MapGet", []string{value}, words)
	b, _ := impl.MapBatch(m, 5)
	wantOwn(t, "MapBatch", changeTexts(b.Changes), words)
	more := newWords("kept", "too", "longer", "another", "middle", "one")
	changes := batchOf(1, set(more[0], more[1]), set(more[2], more[3]), set(more[4], more[5]))
	done, ok := impl.MapDo(m, changes)
	wantOwn(t, "MapDo", pairTexts(done), append(words, more...))
	if !ok || len(done) != 4 {
		t.Errorf("MapDo = %v, %v", done, ok)
	}
	other := mapOf(more[0], more[1], more[2], more[3], more[4], more[5])
	for _, two := range [][2][]impl.Pair{{m, other}, {other, m}, {nil, m}, {m, nil}} {
		between, ok := impl.MapBetween(two[0], two[1])
		wantOwn(t, "MapBetween", changeTexts(between), append(words, more...))
		if !ok || len(between) == 0 {
			t.Errorf("MapBetween = %v, %v", between, ok)
		}
	}
}

func TestListsOfMapsAreNewMemory(t *testing.T) {
	m := mapOf("a", "1", "b", "2")
	for _, b := range []impl.Batch{{}, batchOf(1, set("a", "1")), batchOf(1, gone("z"))} {
		done, _ := impl.MapDo(m, b)
		done[0].Value, done[1].Key = "turned", "turned"
		if again, _ := impl.MapDo(m, b); !slices.Equal(again, mapOf("a", "1", "b", "2")) || m[0].Value != "1" {
			t.Errorf("MapDo answers a list that it keeps, or that came in: %v, %v", again, m)
		}
	}
	first, _ := impl.MapBatch(m, 1)
	first.Changes[0].Key = "turned"
	if again, _ := impl.MapBatch(m, 1); again.Changes[0].Key != "a" || m[0].Key != "a" {
		t.Error("MapBatch answers a list that it keeps")
	}
	changes, _ := impl.MapBetween(nil, m)
	changes[0].Key = "turned"
	if again, _ := impl.MapBetween(nil, m); again[0].Key != "a" || m[0].Key != "a" {
		t.Error("MapBetween answers a list that it keeps")
	}
}

func TestManyMapsAtOnce(t *testing.T) {
	var all sync.WaitGroup
	shared, other := mapOfMany("k", 60, "v"), mapOfMany("k", 60, "w")
	for range 8 {
		all.Add(1)
		go func() {
			defer all.Done()
			for range 20 {
				wantMapBetween(t, "at once", shared, other)
				wantMapBatch(t, "at once", shared, 5)
				wantGot(t, "at once", shared, "k30")
			}
		}()
	}
	all.Wait()
}
