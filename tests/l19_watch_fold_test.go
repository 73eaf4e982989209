package tests

import (
	"fmt"
	"maps"
	"slices"
	"testing"

	"loop.example/g00103/impl"
)

// plainFold looks through the whole list for each index.
func plainFold(list []impl.Applied, stamp int) ([]impl.Pair, bool) {
	if len(list) > 400 || stamp < 0 || stamp > 100000 {
		return nil, false
	}
	var state []impl.Pair
	for index := 1; index <= stamp; index++ {
		at := slices.IndexFunc(list, func(a impl.Applied) bool { return a.Index == index })
		if at < 0 {
			return nil, false
		}
		state, _ = plainState(state, index, list[at].Entry)
	}
	return state, true
}

func plainFolded(w impl.World, node int) bool {
	for at, s := range w.Servers {
		if at+1 != node {
			continue
		}
		shelf, _, code := plainOpen(s.Disk)
		kept, ok := plainShelfMap(s.Disk, shelf)
		made, folds := plainFold(w.Applied, shelf.Stamp)
		return code == 0 && ok && folds && slices.Equal(kept, made)
	}
	return false
}

// fiveOf are the five that Sound asks of a world, each by its name.
func fiveOf(w impl.World) map[string]bool {
	five := map[string]bool{"OneLeader": impl.OneLeader(w.Leaders), "SameApplied": impl.SameApplied(w.Applied), "Once": impl.Once(w.Replies), "Whole": true, "Folded": true}
	for _, a := range w.Applied {
		five["Whole"] = five["Whole"] && impl.Whole(w.Leaders, a)
	}
	for at := range w.Servers {
		five["Folded"] = five["Folded"] && impl.Folded(w, at+1)
	}
	return five
}

func plainFive(w impl.World) map[string]bool {
	five := map[string]bool{"OneLeader": plainOneLeader(w.Leaders), "SameApplied": plainSameApplied(w.Applied), "Once": plainOnce(w.Replies), "Whole": true, "Folded": true}
	for _, a := range w.Applied {
		five["Whole"] = five["Whole"] && plainWhole(w.Leaders, a)
	}
	for at := range w.Servers {
		five["Folded"] = five["Folded"] && plainFolded(w, at+1)
	}
	return five
}

func brokenOf(five map[string]bool) []string {
	var broken []string
	for name, ok := range five {
		if !ok {
			broken = append(broken, name)
		}
	}
	return broken
}

// wantFive asks that just these of the five are broken.
func wantFive(t *testing.T, why string, w impl.World, broken ...string) {
	t.Helper()
	want := map[string]bool{"OneLeader": true, "SameApplied": true, "Once": true, "Whole": true, "Folded": true}
	for _, name := range broken {
		want[name] = false
	}
	if plain := plainFive(w); !maps.Equal(plain, want) {
		t.Errorf("%s: the plain rules tell %v; want %v", why, plain, want)
	}
	if five := fiveOf(w); !maps.Equal(five, want) {
		t.Errorf("%s: of %s come %v; want %v", why, shortWorld(w), five, want)
	}
	if impl.Sound(w) != (len(broken) == 0) {
		t.Errorf("%s: Sound is %v, broken are %v", why, impl.Sound(w), broken)
	}
}

func wantFold(t *testing.T, why string, list []impl.Applied, stamp int, want []impl.Pair) {
	t.Helper()
	if m, ok := plainFold(list, stamp); !ok || !slices.Equal(m, want) {
		t.Errorf("%s: the plain rule makes %v, %v up to %d; want %v", why, m, ok, stamp, want)
	}
	if m, ok := impl.Fold(list, stamp); !ok || !slices.Equal(m, want) {
		t.Errorf("%s: Fold(%d of them, %d) = %v, %v; want %v", why, len(list), stamp, m, ok, want)
	}
}

func wantNoFold(t *testing.T, why string, list []impl.Applied, stamp int) {
	t.Helper()
	if _, ok := plainFold(list, stamp); ok {
		t.Errorf("%s: the plain rule folds up to %d", why, stamp)
	}
	if m, ok := impl.Fold(list, stamp); ok || len(m) > 0 {
		t.Errorf("%s: Fold(%d of them, %d) = %v, %v; want none", why, len(list), stamp, m, ok)
	}
}

// appliedAll has the entries at the indexes from 1 on.
func appliedAll(list ...impl.Entry) []impl.Applied {
	var all []impl.Applied
	for at, e := range list {
		all = append(all, appliedOf(1, 1, at+1, e))
	}
	return all
}

// foldStory are entries, and the states behind each of them.
func foldStory() ([]impl.Entry, [][]impl.Pair) {
	of := func(c impl.Command) impl.Entry { return commandEntry(1, c) }
	open := stateOf("n", "2", "s1", "0 2 ")
	put := stateOf("ka", "x", "n", "2", "s1", "1 3 put")
	got := stateOf("ka", "x", "n", "2", "s1", "2 7 got x")
	two := stateWith(got, "n", "3", "s2", "0 9 ")
	swapped := stateWith(two, "ka", "y", "s2", "1 10 swapped")
	four := stateWith(swapped, "n", "5", "s3", "0 11 ", "s4", "0 12 ")
	list := entries(noneOf(1), of(openNew()), of(putOf(1, 1, "a", "x")), of(putOf(1, 1, "a", "y")), confOf(1, "\x01\x02"), of(putOf(1, 3, "a", "y")), of(getOf(1, 2, "a")),
		of(cutOf(7, 1, "a")), of(openNew()), of(swapOf(2, 1, "a", "y", "x")), of(openNew()), of(openNew()), of(getOf(1, 3, "a")), of(cutOf(2, 2, "a")), noneOf(2))
	cut := stateWithout(stateWith(four, "s2", "2 14 cut"), "ka", "s1")
	return list, [][]impl.Pair{nil, nil, open, put, put, put, put, got, got, two, swapped, stateWith(swapped, "n", "4", "s3", "0 11 "), stateWithout(four, "s1"), stateWithout(four, "s1"), cut, cut}
}

func TestFoldByHand(t *testing.T) {
	list, states := foldStory()
	all := appliedAll(list...)
	for stamp, state := range states {
		wantFold(t, "the story", all, stamp, state)
		wantFold(t, "the story up to there", all[:stamp], stamp, state)
	}
	back := slices.Clone(all)
	slices.Reverse(back)
	for at := range back {
		back[at].Node, back[at].Term = -at, 7*at
	}
	for stamp, state := range states {
		wantFold(t, "the other way round, of other Nodes and Terms", back, stamp, state)
	}
	for _, stamp := range append(farNumbers(), -2, -1, 16, 17, 100000, 100001) {
		wantNoFold(t, "another stamp", all, stamp)
	}
}

func TestFoldOfNothing(t *testing.T) {
	for _, list := range [][]impl.Applied{nil, {}, {{}}, {appliedOf(1, 1, 0, noneOf(1))}, {appliedOf(1, 1, -1, commandEntry(1, openNew()))}, {appliedOf(1, 1, 2, commandEntry(1, openNew()))}} {
		wantFold(t, "nothing", list, 0, nil)
		for _, stamp := range append(farNumbers(), -2, -1, 1, 2, 100000, 100001) {
			wantNoFold(t, "nothing", list, stamp)
		}
	}
}

// An index that is not there, wherever it stands.
func TestFoldOfIndexesThatAreNotThere(t *testing.T) {
	list, states := foldStory()
	all := appliedAll(list...)
	for gone := 1; gone <= len(all); gone++ {
		left := slices.Delete(slices.Clone(all), gone-1, gone)
		for stamp, state := range states {
			if stamp < gone {
				wantFold(t, "ahead of what is gone", left, stamp, state)
			} else {
				wantNoFold(t, "behind what is gone", left, stamp)
			}
		}
		for _, index := range append(farNumbers(), -1, 0, 16, 100000, 100001) {
			wantNoFold(t, "at another index", append(slices.Clone(left), appliedOf(1, 1, index, list[gone-1])), 15)
		}
	}
}

// Of those that have one index the first counts.
func TestFoldOfIndexesThatAreThereTwice(t *testing.T) {
	list, states := foldStory()
	all := appliedAll(list...)
	last := len(all)
	for index := 1; index <= last; index++ {
		for _, e := range []impl.Entry{noneOf(9), commandEntry(1, openNew()), commandEntry(1, putOf(2, 1, "b", "z")), {}} {
			other := appliedOf(1, 1, index, e)
			for at := range len(all) + 1 {
				twice := slices.Insert(slices.Clone(all), at, other)
				if at >= index {
					wantFold(t, "the other one is the second", twice, last, states[last])
					continue
				}
				entries := slices.Clone(list)
				entries[index-1] = e
				want, _ := plainFold(appliedAll(entries...), last)
				wantFold(t, "the other one is the first", twice, last, want)
			}
		}
	}
}

func TestFoldOfEntriesThatChangeNothing(t *testing.T) {
	open, put := commandEntry(1, openNew()), commandEntry(1, putOf(1, 1, "a", "x"))
	all := changingNothing()
	all["no Entry"] = impl.Entry{}
	for _, kind := range append(farNumbers(), -1, 0, 1, 2, 4, 5) {
		all[fmt.Sprint("a command of the Kind ", kind)] = entryOf(1, kind, put.Data)
	}
	for stamp := range 4 {
		b := batchOf(stamp, set("a", "x"))
		all[fmt.Sprint("a batch of the stamp ", stamp)] = commandOf(1, plainBatchText(b))
		all[fmt.Sprint("a batch in a frame, of the stamp ", stamp)] = commandOf(1, segmentOf(b))
	}
	for why, e := range all {
		opened := stateOf("n", "2", "s1", "0 1 ")
		wantFold(t, why, appliedAll(e), 1, nil)
		wantFold(t, why, appliedAll(open, e), 2, opened)
		wantFold(t, why, appliedAll(open, e, put), 3, stateWith(opened, "ka", "x", "s1", "1 3 put"))
	}
}

// Each Term of an entry is well: it is looked at by nobody.
func TestFoldOfTerms(t *testing.T) {
	for _, term := range append(farNumbers(), -1, 0, 1, 100000, 100001) {
		list := appliedAll(commandEntry(term, openNew()), commandEntry(term, putOf(1, 1, "a", "x")), commandEntry(-term, cutOf(1, 2, "a")))
		wantFold(t, fmt.Sprint("the Term ", term), list, 2, stateOf("ka", "x", "n", "2", "s1", "1 2 put"))
		wantFold(t, fmt.Sprint("the Term ", term), list, 3, stateOf("n", "2", "s1", "2 3 cut"))
	}
}

// Where there is no room for what a command would make, nothing changes.
func TestFoldOfStatesThatAreFull(t *testing.T) {
	list := entries(commandEntry(1, openNew()))
	for n := range 60 {
		list = append(list, commandEntry(1, putOf(1, n+1, fmt.Sprint("key", 10+n), "x")))
	}
	list = append(list, commandEntry(1, openNew()), commandEntry(1, cutOf(1, 59, "key20")), commandEntry(1, putOf(1, 60, "new", "y")), commandEntry(1, openNew()))
	all := appliedAll(list...)
	full := stateOf("n", "2", "s1", "58 59 put")
	for n := range 58 {
		full = stateWith(full, fmt.Sprint("kkey", 10+n), "x")
	}
	wantFold(t, "full", all, 59, full)
	for stamp := 60; stamp <= 62; stamp++ {
		wantFold(t, "no room", all, stamp, full)
	}
	left := stateWithout(stateWith(full, "s1", "59 63 cut"), "kkey20")
	wantFold(t, "cut", all, 63, left)
	wantFold(t, "put", all, 64, stateWith(left, "knew", "y", "s1", "60 64 put"))
	wantFold(t, "no room again", all, 65, stateWith(left, "knew", "y", "s1", "60 64 put"))
}

func TestFoldOfLongLists(t *testing.T) {
	open := commandEntry(1, openNew())
	for count, ok := range map[int]bool{1: true, 399: true, 400: true, 401: false, 402: false, 5000: false} {
		list := appliedAll(slices.Repeat(entries(open), count)...)
		same := slices.Repeat(appliedAll(open), count)
		if !ok {
			for _, stamp := range []int{-1, 0, 1, 2, 400, count} {
				wantNoFold(t, "too many", list, stamp)
				wantNoFold(t, "too many of one index", same, stamp)
			}
			continue
		}
		wantFold(t, "none of many", list, 0, nil)
		wantFold(t, "the first of many", same, 1, stateOf("n", "2", "s1", "0 1 "))
		var state []impl.Pair
		for n := max(1, count-2); n <= count; n++ {
			state = stateWith(state, "n", fmt.Sprint(count+1), fmt.Sprint("s", n), fmt.Sprint("0 ", n, " "))
		}
		wantFold(t, "all of many", list, count, state)
		wantNoFold(t, "more than all", list, count+1)
		wantNoFold(t, "far more than all", list, 100000)
		wantNoFold(t, "more than all of one index", same, 2)
	}
}

// handWorld is sound: 1 has all that is applied, 2 a merged segment behind two
// indexes, 3 nothing.
func handWorld() impl.World {
	open, put := commandEntry(1, openNew()), commandEntry(1, putOf(1, 1, "a", "x"))
	two := stateOf("n", "2", "s1", "0 2 ")
	whole := segsDisk(segmentOf(batchOf(1), batchOf(2, set("n", "2"), set("s1", "0 2 "))), segmentOf(batchOf(3, set("ka", "x"), set("s1", "1 3 put"))))
	merged := shelfDisk(manifestOf(numbers(4), 5, 2, 1, numbers(1, 2, 3)), mergedSegment(two, 2))
	bare := segsDisk("")
	w := impl.World{Up: []bool{true, false, true}}
	for at, d := range []impl.Disk{nodeDisk(whole, logOf(0, 0, noneOf(1), open, put), cast{1, 1}), nodeDisk(merged, logOf(2, 1, put), cast{2, 2}), nodeDisk(bare, logOf(0, 0))} {
		s, _, _ := plainBoot(at+1, d, 5)
		w.Servers = append(w.Servers, s)
	}
	w.Leaders = []impl.Leader{leaderOf(1, 1, logOf(0, 0, noneOf(1))), leaderOf(2, 2, logOf(2, 1, put, noneOf(2))), leaderOf(3, 3, logOf(0, 0, noneOf(1), open, put, noneOf(2), noneOf(3)))}
	w.Applied = []impl.Applied{appliedOf(1, 1, 1, noneOf(1)), appliedOf(1, 1, 2, open), appliedOf(2, 1, 1, noneOf(1)), appliedOf(1, 1, 3, put), appliedOf(2, 2, 2, open)}
	w.Replies = []impl.Reply{repliedTo(openNew(), "open 1"), repliedTo(putOf(1, 1, "a", "x"), "put"), repliedTo(putOf(1, 3, "a", "x"), "gap"), repliedTo(putOf(1, 1, "a", "x"), "put")}
	return w
}

// handWith is handWorld behind a change; its lists are its own.
func handWith(change func(w *impl.World)) impl.World {
	w := handWorld()
	change(&w)
	return w
}

func wantFolded(t *testing.T, why string, w impl.World, node int, ok bool) {
	t.Helper()
	if plainFolded(w, node) != ok {
		t.Errorf("%s: the plain rule tells %v of the node %d", why, !ok, node)
	}
	if impl.Folded(w, node) != ok {
		t.Errorf("%s: Folded of the node %d is %v: %s", why, node, !ok, shortWorld(w))
	}
}

func TestFoldedNodes(t *testing.T) {
	w := handWorld()
	for _, node := range append(farNumbers(), -3, -2, -1, 0, 1, 2, 3, 4, 5, 6) {
		wantFolded(t, "a node", w, node, among(node, 1, 3))
		wantFolded(t, "nobody", impl.World{}, node, false)
		wantFolded(t, "one", impl.World{Servers: w.Servers[2:]}, node, node == 1)
		wantFolded(t, "servers that are none", impl.World{Servers: make([]impl.Server, 3)}, node, false)
	}
	many := handWith(func(w *impl.World) { w.Servers = slices.Repeat(w.Servers, 3) })
	for node := -1; node <= 11; node++ {
		wantFolded(t, "more nodes than there may be", many, node, among(node, 1, 9))
	}
}

func TestFoldedOfDisksThatAreNoShelf(t *testing.T) {
	for at := range 3 {
		for code, disks := range shelvesRefused() {
			for n, d := range disks {
				w := handWith(func(w *impl.World) { w.Servers[at].Disk = d })
				for node := 1; node <= 3; node++ {
					wantFolded(t, fmt.Sprint("a disk of the code ", code, ", the one at ", n), w, node, node != at+1)
				}
				wantFive(t, "a disk that is refused", w, "Folded")
			}
		}
	}
}

// What OpenShelf cleans away is not in the way.
func TestFoldedOfDisksThatAreNotClean(t *testing.T) {
	for at, last := range map[int]string{0: "g1", 1: "g4", 2: "g0"} {
		text, _ := textOf(handWorld().Servers[at].Disk, last)
		for why, words := range map[string][]string{
			"a byte behind":     {last, text + "x"},
			"a torn batch":      {last, text + segmentOf(batchOf(9, set("a", "x")))[:5]},
			"a batch turned":    {last, text + turned(segmentOf(batchOf(9, set("ka", "z"))), 6, 1)},
			"a new manifest":    {"m+", "words"},
			"another segment":   {"g9", segmentOf(batchOf(9, set("ka", "z")))},
			"no log":            {"log", ""},
			"files beside it":   {"vote", "x", "vote+", "y", "log+", "z", "other", "words"},
			"all of that, torn": {"m+", "", "g9", "x", last, text + "torn", "log", "y"},
		} {
			wantFive(t, why, handWith(func(w *impl.World) { w.Servers[at].Disk = withFiles(w.Servers[at].Disk, words...) }))
		}
	}
}

// A map that is another one in a key, or of another Stamp.
func TestFoldedOfOtherMaps(t *testing.T) {
	base := handWorld()
	for at, last := range map[int]string{0: "g1", 1: "g4", 2: "g0"} {
		text, _ := textOf(base.Servers[at].Disk, last)
		stamp := base.Servers[at].Shelf.Stamp
		with := func(batches ...impl.Batch) impl.World {
			return handWith(func(w *impl.World) {
				w.Servers[at].Disk = withFiles(w.Servers[at].Disk, last, text+segmentOf(batches...))
			})
		}
		for why, change := range map[string]impl.Change{
			"another n":        set("n", "3"),
			"another n by far": set("n", ""),
			"a key more":       set("kb", "x"),
			"the first key":    set("\x00", ""),
			"the last key":     set("\xff", ""),
			"another session":  set("s1", "0 2  "),
		} {
			wantFive(t, why, with(batchOf(stamp, change)), "Folded")
		}
		for _, key := range []string{"ka", "n", "s1"} {
			if stamp > 0 && (key != "ka" || stamp == 3) {
				wantFive(t, "a key less", with(batchOf(stamp, gone(key))), "Folded")
			} else {
				wantFive(t, "no key less", with(batchOf(stamp, gone(key))))
			}
		}
		wantFive(t, "the same Stamp again", with(batchOf(stamp)))
		wantFive(t, "a lesser Stamp behind", with(batchOf(0)))
		wantFive(t, "a Stamp of an index that was never applied", with(batchOf(4)), "Folded")
		wantFive(t, "the greatest Stamp", with(batchOf(100000)), "Folded")
	}
	step := func(batches ...impl.Batch) impl.World {
		return handWith(func(w *impl.World) { w.Servers[2].Disk = withFiles(w.Servers[2].Disk, "g0", segmentOf(batches...)) })
	}
	first, second := batchOf(1), batchOf(2, set("n", "2"), set("s1", "0 2 "))
	wantFive(t, "the first index", step(first))
	wantFive(t, "the second one", step(first, second))
	wantFive(t, "the second one alone", step(second))
	wantFive(t, "the second Stamp, without its changes", step(first, batchOf(2)), "Folded")
	wantFive(t, "the second one's changes, without its Stamp", step(first, batchOf(1, set("n", "2"), set("s1", "0 2 "))), "Folded")
	wantFive(t, "the first index by the Base", handWith(func(w *impl.World) {
		w.Servers[2].Disk = withFiles(w.Servers[2].Disk, "m", plainManifestText(manifestOf(numbers(0), 1, 1, 1, numbers(1))))
	}))
	wantFive(t, "the second index by the Base", handWith(func(w *impl.World) {
		w.Servers[2].Disk = withFiles(w.Servers[2].Disk, "m", plainManifestText(manifestOf(numbers(0), 1, 2, 1, numbers(1))))
	}), "Folded")
}

// Of a world the Disks and Applied alone are looked at.
func TestFoldedLooksAtDisksAlone(t *testing.T) {
	w := handWorld()
	w.Up, w.Net, w.Waits, w.Leaders, w.Replies = []bool{false}, make([]impl.Message, 9), make([]impl.Wait, 9), nil, make([]impl.Reply, 2)
	for at := range w.Servers {
		w.Servers[at] = impl.Server{Disk: w.Servers[at].Disk, Stage: "x", StageAt: -1}
	}
	wantFive(t, "nothing else is right", w)
	for at := range w.Servers {
		w.Servers[at].Shelf = w.Servers[2-at].Shelf
		w.Servers[at].Shelf.Stamp, w.Servers[at].Node.Id = 99, 99
	}
	wantFive(t, "other shelves", w)
	w.Up = make([]bool, 40)
	wantFive(t, "another number of nodes that are up", w)
	w.Applied = append(w.Applied, slices.Repeat(w.Applied[:1], 395)...)
	wantFive(t, "400 of Applied", w)
	w.Applied = append(w.Applied, w.Applied[0])
	wantFive(t, "401 of Applied", w, "Folded")
}

// What is applied is another thing than what the disks have.
func TestFoldedOfOtherEntries(t *testing.T) {
	other := commandEntry(1, putOf(1, 1, "a", "y"))
	for why, c := range map[string]struct {
		change func(w *impl.World)
		folded map[int]bool
	}{
		"another put":               {func(w *impl.World) { w.Applied[3].Entry = other }, map[int]bool{2: true, 3: true}},
		"no put":                    {func(w *impl.World) { w.Applied[3].Entry = noneOf(1) }, map[int]bool{2: true, 3: true}},
		"put is gone":               {func(w *impl.World) { w.Applied = slices.Delete(w.Applied, 3, 4) }, map[int]bool{2: true, 3: true}},
		"no open":                   {func(w *impl.World) { w.Applied[1].Entry, w.Applied[4].Entry = noneOf(1), noneOf(1) }, map[int]bool{3: true}},
		"no open first, then open":  {func(w *impl.World) { w.Applied[1].Entry = noneOf(1) }, map[int]bool{3: true}},
		"open first, then none":     {func(w *impl.World) { w.Applied[4].Entry = noneOf(1) }, map[int]bool{1: true, 2: true, 3: true}},
		"the first index is gone":   {func(w *impl.World) { w.Applied = slices.Delete(w.Applied[1:], 1, 2) }, map[int]bool{3: true}},
		"one of the first is gone":  {func(w *impl.World) { w.Applied = w.Applied[1:] }, map[int]bool{1: true, 2: true, 3: true}},
		"nothing is applied":        {func(w *impl.World) { w.Applied = nil }, map[int]bool{3: true}},
		"open is at the first, too": {func(w *impl.World) { w.Applied[0].Entry = w.Applied[1].Entry }, map[int]bool{3: true}},
		"one more at the end":       {func(w *impl.World) { w.Applied = append(w.Applied, appliedOf(1, 3, 4, other)) }, map[int]bool{1: true, 2: true, 3: true}},
	} {
		w := handWith(c.change)
		for node := 1; node <= 3; node++ {
			wantFolded(t, why, w, node, c.folded[node])
		}
		if impl.Sound(w) && len(c.folded) < 3 {
			t.Errorf("%s: it is sound", why)
		}
	}
}

func TestSoundByHand(t *testing.T) {
	wantFive(t, "a sound world", handWorld())
	wantUpRight(t, "a sound world", handWorld())
	wantFive(t, "nothing", impl.World{})
	wantFive(t, "a server that is none", impl.World{Servers: make([]impl.Server, 1)}, "Folded")
	wantFive(t, "lists of zeros", impl.World{Up: make([]bool, 2), Net: make([]impl.Message, 3), Waits: make([]impl.Wait, 1), Leaders: make([]impl.Leader, 4), Applied: make([]impl.Applied, 500), Replies: make([]impl.Reply, 5)})
	for nodes := 1; nodes <= 4; nodes++ {
		w, _ := impl.WorldNew(nodes, upTo(1, nodes))
		wantFive(t, "a new world", w)
	}
}

// Each of the five is broken alone, first, in the midst and last.
func TestSoundBrokenInOneThing(t *testing.T) {
	w := handWorld()
	far := logOf(9, 1)
	for at := range len(w.Leaders) + 1 {
		for term := 1; term <= 3; term++ {
			wantFive(t, "another leader", handWith(func(w *impl.World) { w.Leaders = slices.Insert(w.Leaders, at, leaderOf(4, term, far)) }), "OneLeader")
			wantFive(t, "the same leader", handWith(func(w *impl.World) { w.Leaders = slices.Insert(w.Leaders, at, leaderOf(term, term, far)) }))
		}
		for term, broken := range map[int]bool{0: false, 1: false, 2: true, 9: true} {
			bare := handWith(func(w *impl.World) { w.Leaders = slices.Insert(w.Leaders, at, ledBare(term, term)) })
			if broken {
				wantFive(t, "a leader that lacks all", bare, "Whole")
			} else {
				wantFive(t, "a leader of a Term that is not above", bare)
			}
		}
	}
	for at := range len(w.Applied) + 1 {
		wantFive(t, "another entry", handWith(func(w *impl.World) { w.Applied = slices.Insert(w.Applied, at, appliedOf(1, 3, 1, noneOf(2))) }), "SameApplied")
		wantFive(t, "an entry that leaders lack", handWith(func(w *impl.World) { w.Applied = slices.Insert(w.Applied, at, appliedOf(1, 2, 9, noneOf(2))) }), "Whole")
		wantFive(t, "an entry that no leader comes behind", handWith(func(w *impl.World) { w.Applied = slices.Insert(w.Applied, at, appliedOf(1, 3, 9, noneOf(2))) }))
	}
	for at := range len(w.Replies) + 1 {
		for _, text := range []string{"none", "", "put x"} {
			wantFive(t, "another reply", handWith(func(w *impl.World) { w.Replies = slices.Insert(w.Replies, at, repliedTo(putOf(1, 1, "b", ""), text)) }), "Once")
		}
		for _, text := range append(sayNothing(), "put") {
			wantFive(t, "a reply that may be", handWith(func(w *impl.World) { w.Replies = slices.Insert(w.Replies, at, repliedTo(putOf(1, 1, "b", ""), text)) }))
		}
	}
	for at := range w.Servers {
		wantFive(t, "a disk that is none", handWith(func(w *impl.World) { w.Servers[at].Disk = impl.Disk{} }), "Folded")
	}
	for at := range len(w.Servers) + 1 {
		wantFive(t, "a server more that is none", handWith(func(w *impl.World) { w.Servers = slices.Insert(w.Servers, at, impl.Server{}) }), "Folded")
		wantFive(t, "a server more", handWith(func(w *impl.World) { w.Servers = slices.Insert(w.Servers, at, w.Servers[0]) }))
	}
	wantFive(t, "an entry that is another in the last log", handWith(func(w *impl.World) { w.Leaders[2].Log.Entries[2].Data = "" }), "Whole")
	wantFive(t, "a log that is not right", handWith(func(w *impl.World) { w.Leaders[2].Log.Entries[4].Term = 1 }), "Whole")
}

// Two of the five, or all of them.
func TestSoundBrokenInMoreThings(t *testing.T) {
	breaks := map[string]func(w *impl.World){
		"OneLeader":   func(w *impl.World) { w.Leaders = append(w.Leaders, leaderOf(4, 3, logOf(9, 1))) },
		"SameApplied": func(w *impl.World) { w.Applied = append(w.Applied, appliedOf(1, 9, 1, noneOf(2))) },
		"Once":        func(w *impl.World) { w.Replies = append(w.Replies, repliedTo(putOf(1, 1, "a", "x"), "cut")) },
		"Whole":       func(w *impl.World) { w.Leaders[1].Log = impl.Log{} },
		"Folded":      func(w *impl.World) { w.Servers[1].Disk.Files = nil },
	}
	names := slices.Sorted(maps.Keys(breaks))
	for set := range 1 << len(names) {
		w := handWorld()
		var broken []string
		for at, name := range names {
			if set>>at&1 == 1 {
				breaks[name](&w)
				broken = append(broken, name)
			}
		}
		wantFive(t, fmt.Sprint("broken ", broken), w, broken...)
	}
}
