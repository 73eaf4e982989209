package tests

import (
	"fmt"
	"math"
	"slices"
	"strings"
	"testing"

	"loop.example/g00103/impl"
)

func leaderOf(node, term int, l impl.Log) impl.Leader {
	return impl.Leader{Node: node, Term: term, Log: l}
}

// ledBare is a leader whose Log has nothing.
func ledBare(node, term int) impl.Leader { return leaderOf(node, term, impl.Log{}) }

func repliedTo(c impl.Command, text string) impl.Reply { return impl.Reply{Command: c, Text: text} }

// sayNothing are the texts that say of a command that nothing was done.
func sayNothing() []string { return []string{"expired", "stale", "gap"} }

// noTwo is the document's rule of a list in which no two clash.
func noTwo[T any](list []T, clash func(a, b T) bool) bool {
	for at, a := range list {
		for _, b := range list[at+1:] {
			if clash(a, b) {
				return false
			}
		}
	}
	return true
}

func plainOneLeader(list []impl.Leader) bool {
	return noTwo(list, func(a, b impl.Leader) bool { return a.Term == b.Term && a.Node != b.Node })
}

func plainSameApplied(list []impl.Applied) bool {
	return noTwo(list, func(a, b impl.Applied) bool { return a.Index == b.Index && a.Entry != b.Entry })
}

func plainOnce(list []impl.Reply) bool {
	counts := func(r impl.Reply) bool { return r.Command.Session > 0 && !slices.Contains(sayNothing(), r.Text) }
	return noTwo(list, func(a, b impl.Reply) bool {
		same := a.Command.Session == b.Command.Session && a.Command.Seq == b.Command.Seq
		return counts(a) && counts(b) && same && a.Text != b.Text
	})
}

// plainEntryAt goes from entry to entry.
func plainEntryAt(l impl.Log, index int) (impl.Entry, bool) {
	if plainLogOk(l) {
		for at, e := range l.Entries {
			if l.Start+at+1 == index {
				return e, true
			}
		}
	}
	return impl.Entry{}, false
}

func plainWhole(list []impl.Leader, a impl.Applied) bool {
	for _, l := range list {
		if l.Term <= a.Term || l.Log.Start >= a.Index {
			continue
		}
		if e, there := plainEntryAt(l.Log, a.Index); !there || e != a.Entry {
			return false
		}
	}
	return true
}

// inTwoPlaces are the lists that have a and b, one ahead of the other, each at
// any place among the others.
func inTwoPlaces[T any](others []T, a, b T, each func(list []T)) {
	for _, two := range [][]T{{a, b}, {b, a}} {
		for i := range len(others) + 1 {
			for j := i; j <= len(others); j++ {
				each(slices.Concat(others[:i], two[:1], others[i:j], two[1:], others[j:]))
			}
		}
	}
}

func wantOneLeaderOf(t *testing.T, why string, list []impl.Leader, ok bool) {
	t.Helper()
	if plainOneLeader(list) != ok {
		t.Errorf("%s: the plain rule of leaders tells %v of %.300v", why, !ok, list)
	}
	if impl.OneLeader(list) != ok {
		t.Errorf("%s: OneLeader(%.300v) is %v", why, list, !ok)
	}
}

func wantSameApplied(t *testing.T, why string, list []impl.Applied, ok bool) {
	t.Helper()
	if plainSameApplied(list) != ok {
		t.Errorf("%s: the plain rule of what is applied tells %v of %.300v", why, !ok, list)
	}
	if impl.SameApplied(list) != ok {
		t.Errorf("%s: SameApplied(%.300v) is %v", why, list, !ok)
	}
}

func wantOnce(t *testing.T, why string, list []impl.Reply, ok bool) {
	t.Helper()
	if plainOnce(list) != ok {
		t.Errorf("%s: the plain rule of replies tells %v of %.300v", why, !ok, list)
	}
	if impl.Once(list) != ok {
		t.Errorf("%s: Once(%.300v) is %v", why, list, !ok)
	}
}

func wantEntryAt(t *testing.T, why string, l impl.Log, index int, want impl.Entry, ok bool) {
	t.Helper()
	if e, was := plainEntryAt(l, index); was != ok || e != want {
		t.Errorf("%s: the plain rule tells %v, %v of the index %d of %s", why, e, was, index, shortLog(l))
	}
	if e, was := impl.EntryAt(l, index); was != ok || e != want {
		t.Errorf("%s: EntryAt(%s, %d) = %v, %v; want %v, %v", why, shortLog(l), index, e, was, want, ok)
	}
}

func wantWhole(t *testing.T, why string, list []impl.Leader, a impl.Applied, ok bool) {
	t.Helper()
	if plainWhole(list, a) != ok {
		t.Errorf("%s: the plain rule tells %v of %.300v and %v", why, !ok, list, a)
	}
	if impl.Whole(list, a) != ok {
		t.Errorf("%s: Whole(%.300v, %v) is %v", why, list, a, !ok)
	}
}

func TestWatchersOfNothing(t *testing.T) {
	a := appliedOf(1, 1, 1, noneOf(1))
	for _, n := range []int{0, 1} {
		leaders, applied, replies := make([]impl.Leader, n), make([]impl.Applied, n), make([]impl.Reply, n)
		wantOneLeaderOf(t, "zero", leaders, true)
		wantSameApplied(t, "zero", applied, true)
		wantOnce(t, "zero", replies, true)
		wantWhole(t, "zero", leaders, a, true)
	}
	wantOneLeaderOf(t, "nil", nil, true)
	wantSameApplied(t, "nil", nil, true)
	wantOnce(t, "nil", nil, true)
	wantWhole(t, "nil", nil, a, true)
	wantWhole(t, "nothing of nothing", nil, impl.Applied{}, true)
	wantWhole(t, "nothing of a leader that is none", make([]impl.Leader, 3), impl.Applied{}, true)
	wantOneLeaderOf(t, "one", []impl.Leader{leaderOf(2, 3, ordinaryLog())}, true)
	wantSameApplied(t, "one", []impl.Applied{a}, true)
	wantOnce(t, "one", []impl.Reply{repliedTo(putOf(1, 1, "a", "x"), "put")}, true)
}

func TestOneLeaderOfTwo(t *testing.T) {
	others := []impl.Leader{ledBare(1, 10), ledBare(2, 11), ledBare(2, 12), leaderOf(1, 10, ordinaryLog())}
	one := leaderOf(1, 5, ordinaryLog())
	for _, c := range []struct {
		why  string
		a, b impl.Leader
		ok   bool
	}{
		{"one twice", one, one, true},
		{"with another log", one, ledBare(1, 5), true},
		{"another Node", one, leaderOf(2, 5, ordinaryLog()), false},
		{"another Node and log", one, ledBare(2, 5), false},
		{"another Term", one, leaderOf(1, 6, ordinaryLog()), true},
		{"another Node and Term", one, leaderOf(2, 6, ordinaryLog()), true},
		{"Terms of 0", ledBare(1, 0), ledBare(2, 0), false},
		{"Terms below 0", ledBare(1, -3), ledBare(2, -3), false},
		{"a Term below 0, one above", ledBare(1, -3), ledBare(2, 3), true},
		{"no Node", ledBare(0, 5), ledBare(1, 5), false},
		{"both no Node", ledBare(0, 5), ledBare(0, 5), true},
		{"a Node and the same below 0", ledBare(1, 5), ledBare(-1, 5), false},
		{"against one of the others", ledBare(3, 11), ledBare(3, 11), false},
		{"like one of the others", ledBare(2, 11), ledBare(2, 11), true},
	} {
		inTwoPlaces(others, c.a, c.b, func(list []impl.Leader) { wantOneLeaderOf(t, c.why, list, c.ok) })
	}
	for _, far := range farNumbers() {
		inTwoPlaces(others, ledBare(1, far), ledBare(2, far), func(list []impl.Leader) { wantOneLeaderOf(t, "a far Term", list, false) })
		inTwoPlaces(others, ledBare(1, 5), ledBare(far, 5), func(list []impl.Leader) { wantOneLeaderOf(t, "a far Node", list, false) })
		inTwoPlaces(others, ledBare(1, 5), ledBare(2, far), func(list []impl.Leader) { wantOneLeaderOf(t, "Terms far from each other", list, true) })
	}
}

func TestSameAppliedOfTwo(t *testing.T) {
	others := []impl.Applied{appliedOf(1, 1, 10, noneOf(1)), appliedOf(2, 1, 11, noneOf(1)), appliedOf(2, 3, 10, noneOf(1)), appliedOf(1, 1, 12, commandOf(1, "x"))}
	one := appliedOf(1, 3, 5, commandOf(2, "xy"))
	of := func(e impl.Entry) impl.Applied { return appliedOf(1, 3, 5, e) }
	for _, c := range []struct {
		why  string
		a, b impl.Applied
		ok   bool
	}{
		{"one twice", one, one, true},
		{"by another Node", one, appliedOf(2, 3, 5, one.Entry), true},
		{"in another Term", one, appliedOf(1, 4, 5, one.Entry), true},
		{"by another Node, in another Term", one, appliedOf(4, 2, 5, one.Entry), true},
		{"another Term of the Entry alone", one, of(commandOf(3, "xy")), false},
		{"another Kind alone", one, of(entryOf(2, 2, "xy")), false},
		{"another Data alone", one, of(commandOf(2, "xz")), false},
		{"Data with a byte more", one, of(commandOf(2, "xyz")), false},
		{"Data with a byte 0 more", one, of(commandOf(2, "xy\x00")), false},
		{"Data with a byte less", one, of(commandOf(2, "x")), false},
		{"no Data", one, of(commandOf(2, "")), false},
		{"all of it another", one, of(noneOf(7)), false},
		{"no Entry", one, of(impl.Entry{}), false},
		{"all else another, too", one, appliedOf(2, 4, 5, commandOf(3, "xy")), false},
		{"another Index", one, appliedOf(1, 3, 6, one.Entry), true},
		{"another Index and Entry", one, appliedOf(1, 3, 6, noneOf(3)), true},
		{"an Index of 0", appliedOf(1, 1, 0, noneOf(1)), appliedOf(1, 1, 0, noneOf(2)), false},
		{"an Index below 0", appliedOf(1, 1, -4, noneOf(1)), appliedOf(1, 1, -4, noneOf(2)), false},
		{"an Index below 0, one above", appliedOf(1, 1, -4, noneOf(1)), appliedOf(1, 1, 4, noneOf(2)), true},
		{"Entries that are not right", appliedOf(1, 1, 5, entryOf(-1, 9, "x")), appliedOf(1, 1, 5, entryOf(-1, 9, "x")), true},
		{"against one of the others", appliedOf(1, 1, 12, commandOf(1, "y")), appliedOf(1, 1, 12, commandOf(1, "y")), false},
	} {
		inTwoPlaces(others, c.a, c.b, func(list []impl.Applied) { wantSameApplied(t, c.why, list, c.ok) })
	}
	for _, far := range farNumbers() {
		inTwoPlaces(others, appliedOf(1, 1, far, noneOf(1)), appliedOf(1, 1, far, noneOf(2)), func(list []impl.Applied) { wantSameApplied(t, "a far Index", list, false) })
		inTwoPlaces(others, one, appliedOf(1, 1, far, noneOf(2)), func(list []impl.Applied) { wantSameApplied(t, "Indexes far from each other", list, true) })
		inTwoPlaces(others, one, of(commandOf(far, "xy")), func(list []impl.Applied) { wantSameApplied(t, "a far Term of the Entry", list, false) })
		inTwoPlaces(others, one, of(entryOf(2, far, "xy")), func(list []impl.Applied) { wantSameApplied(t, "a far Kind", list, false) })
		inTwoPlaces(others, one, appliedOf(far, far, 5, one.Entry), func(list []impl.Applied) { wantSameApplied(t, "a far Node and Term", list, true) })
	}
}

func TestOnceOfTwo(t *testing.T) {
	others := []impl.Reply{repliedTo(openNew(), "open 1"), repliedTo(openNew(), "open 2"), repliedTo(putOf(1, 7, "a", "x"), "put"), repliedTo(putOf(1, 8, "a", "x"), "gap"), repliedTo(getOf(2, 7, "a"), "none")}
	put := putOf(1, 5, "a", "x")
	one := repliedTo(put, "put")
	for _, c := range []struct {
		why  string
		a, b impl.Reply
		ok   bool
	}{
		{"one twice", one, one, true},
		{"another Text", one, repliedTo(put, "none"), false},
		{"another Text of one byte more", one, repliedTo(put, "put "), false},
		{"an empty Text", one, repliedTo(put, ""), false},
		{"empty Texts", repliedTo(put, ""), repliedTo(put, ""), true},
		{"of another Op alone", one, repliedTo(getOf(1, 5, "a"), "put"), true},
		{"of another Op, another Text", one, repliedTo(getOf(1, 5, "a"), "got x"), false},
		{"of another Key, another Text", repliedTo(getOf(1, 5, "a"), "got x"), repliedTo(getOf(1, 5, "b"), "got y"), false},
		{"at another Call and Index", one, impl.Reply{Call: 7, Index: 9, Command: put, Text: "put"}, true},
		{"at another Call and Index, another Text", one, impl.Reply{Call: 7, Index: 9, Command: put, Text: "cut"}, false},
		{"another Session", one, repliedTo(putOf(2, 5, "a", "x"), "none"), true},
		{"another Seq", one, repliedTo(putOf(1, 6, "a", "x"), "none"), true},
		{"Session and Seq the other way round", one, repliedTo(putOf(5, 1, "a", "x"), "none"), true},
		{"a Session of 0", repliedTo(putOf(0, 5, "a", "x"), "put"), repliedTo(putOf(0, 5, "a", "x"), "none"), true},
		{"a Session below 0", repliedTo(putOf(-1, 5, "a", "x"), "put"), repliedTo(putOf(-1, 5, "a", "x"), "none"), true},
		{"the least Session", repliedTo(putOf(math.MinInt, 5, "a", "x"), "put"), repliedTo(putOf(math.MinInt, 5, "a", "x"), "none"), true},
		{"the greatest Session", repliedTo(putOf(math.MaxInt, 5, "a", "x"), "put"), repliedTo(putOf(math.MaxInt, 5, "a", "x"), "none"), false},
		{"a Seq of 0", repliedTo(putOf(1, 0, "a", "x"), "put"), repliedTo(putOf(1, 0, "a", "x"), "none"), false},
		{"a Seq below 0", repliedTo(putOf(1, -1, "a", "x"), "put"), repliedTo(putOf(1, -1, "a", "x"), "none"), false},
		{"opened with a Session", repliedTo(impl.Command{Op: 1, Session: 3}, "open 1"), repliedTo(impl.Command{Op: 1, Session: 3}, "open 2"), false},
		{"a command that is none", repliedTo(impl.Command{Op: 99, Session: 1, Seq: 5}, "put"), one, true},
		{"a command that is none, another Text", repliedTo(impl.Command{Op: 99, Session: 1, Seq: 5}, "cut"), one, false},
		{"against one of the others", repliedTo(getOf(2, 7, "a"), "got x"), repliedTo(getOf(2, 7, "a"), "got x"), false},
	} {
		inTwoPlaces(others, c.a, c.b, func(list []impl.Reply) { wantOnce(t, c.why, list, c.ok) })
	}
}

// Who is told that nothing was done may well be told something else, too.
func TestOnceOfTextsThatTellOfNothing(t *testing.T) {
	put := putOf(1, 5, "a", "x")
	others := []impl.Reply{repliedTo(openNew(), "open 1"), repliedTo(putOf(1, 6, "a", "x"), "put")}
	for _, word := range sayNothing() {
		nothing := repliedTo(put, word)
		for _, text := range append(sayNothing(), "put", "", "got x") {
			inTwoPlaces(others, nothing, repliedTo(put, text), func(list []impl.Reply) { wantOnce(t, word, list, true) })
		}
		for _, near := range []string{word + " ", " " + word, strings.ToUpper(word), word[1:], word[:len(word)-1], word + word, "got " + word, word + "\x00"} {
			inTwoPlaces(others, repliedTo(put, near), repliedTo(put, "put"), func(list []impl.Reply) { wantOnce(t, near, list, false) })
			inTwoPlaces(others, repliedTo(put, near), nothing, func(list []impl.Reply) { wantOnce(t, near, list, true) })
		}
		between := []impl.Reply{repliedTo(put, "put"), nothing, repliedTo(put, "none")}
		inTwoPlaces(others, nothing, nothing, func(list []impl.Reply) {
			wantOnce(t, "two that say another thing, with "+word, append(list, between...), false)
			wantOnce(t, "two that say another thing, with "+word, append(between, list...), false)
		})
	}
}

// All lists of up to four of a few.
func TestWatchersOfAllShortLists(t *testing.T) {
	seen := map[string]int{}
	few := []impl.Reply{
		repliedTo(getOf(0, 0, "a"), "none"), repliedTo(getOf(1, 0, "a"), "none"), repliedTo(getOf(1, 0, "a"), "got x"), repliedTo(getOf(1, 0, "a"), "gap"),
		repliedTo(getOf(1, 1, "a"), "none"), repliedTo(getOf(1, 1, "a"), "got x"), repliedTo(getOf(1, 1, "a"), "stale"), repliedTo(getOf(2, 0, "a"), "none"),
	}
	for _, list := range listsOf(4, 0, 1, 2, 3, 4, 5, 6, 7) {
		var leaders []impl.Leader
		var applied []impl.Applied
		var replies []impl.Reply
		for _, n := range list {
			leaders = append(leaders, ledBare(n%2, n/2%2))
			applied = append(applied, appliedOf(n%3, n%2, n/4, noneOf(n/2%2)))
			replies = append(replies, few[n])
		}
		wantOneLeaderOf(t, "a short list", leaders, plainOneLeader(leaders))
		wantSameApplied(t, "a short list", applied, plainSameApplied(applied))
		wantOnce(t, "a short list", replies, plainOnce(replies))
		seen[fmt.Sprint("leaders ", plainOneLeader(leaders))]++
		seen[fmt.Sprint("applied ", plainSameApplied(applied))]++
		seen[fmt.Sprint("replies ", plainOnce(replies))]++
	}
	wantSeen(t, seen, map[string]int{"leaders true": 300, "leaders false": 300, "applied true": 300, "applied false": 300, "replies true": 300, "replies false": 300})
}

// A long list is gone through in no more time than its length asks for.
func TestWatchersOfLongLists(t *testing.T) {
	const many = 200000
	leaders, applied, replies := make([]impl.Leader, many), make([]impl.Applied, many), make([]impl.Reply, many)
	for n := range many {
		leaders[n] = ledBare(n%7, n/2*7+n%7)
		applied[n] = appliedOf(1, 1, n/2, noneOf(n/2))
		replies[n] = repliedTo(getOf(1+n/2%9, n/18, "a"), fmt.Sprint("got ", n/18))
	}
	if !impl.OneLeader(leaders) || !impl.SameApplied(applied) || !impl.Once(replies) {
		t.Error("a long list without a fault has one")
	}
	for _, at := range []int{0, 1, many / 2, many - 1} {
		led, a, r := leaders[at], applied[at], replies[at]
		leaders[at], applied[at].Entry.Term, replies[at].Text = ledBare(8, leaders[many-1-at].Term), -1, "none"
		if impl.OneLeader(leaders) || impl.SameApplied(applied) || impl.Once(replies) {
			t.Errorf("a long list with a fault at %d has none", at)
		}
		leaders[at], applied[at], replies[at] = led, a, r
	}
}

func TestEntryAtByHand(t *testing.T) {
	l := ordinaryLog()
	for index, e := range map[int]impl.Entry{3: noneOf(1), 4: commandOf(1, "x"), 5: confOf(3, "\x01\x02"), 6: commandOf(4, "")} {
		wantEntryAt(t, "an ordinary one", l, index, e, true)
	}
	for _, index := range append(farNumbers(), -2, -1, 0, 1, 2, 7, 8, 9) {
		wantEntryAt(t, "an ordinary one", l, index, impl.Entry{}, false)
	}
	wantEntryAt(t, "the first index", logOf(0, 0, noneOf(1)), 1, noneOf(1), true)
	wantEntryAt(t, "the last index", logOf(99999, 3, noneOf(3)), 100000, noneOf(3), true)
	wantEntryAt(t, "the last of MaxLog", logOfMany(99880, 3, 120), 100000, noneOf(3), true)
	wantEntryAt(t, "an entry of the Term 0", logOf(0, 0, noneOf(0)), 1, noneOf(0), true)
	wantEntryAt(t, "a log that is not right", logOf(0, 2, noneOf(1)), 1, impl.Entry{}, false)
	wantEntryAt(t, "not right behind the entry", logOf(0, 0, noneOf(1), noneOf(0)), 1, impl.Entry{}, false)
	wantEntryAt(t, "MaxLog + 1 entries", logOfMany(0, 0, 121), 1, impl.Entry{}, false)
	wantEntryAt(t, "an index that would be 0", logOf(-1, 0, noneOf(1)), 0, impl.Entry{}, false)
	wantEntryAt(t, "an index above MaxIndex", logOf(100000, 0, noneOf(1)), 100001, impl.Entry{}, false)
}

func TestEntryAtOfEachIndex(t *testing.T) {
	logs := wrongLogs()
	for why, l := range rightLogs() {
		logs["right: "+why] = l
	}
	there, gone := 0, 0
	for why, l := range logs {
		// Where Start is far off, these go past what an int holds.
		near := []int{}
		for away := -3; away < min(len(l.Entries), 130)+4; away++ {
			near = append(near, l.Start+away)
		}
		for _, index := range append(append(farNumbers(), near...), -1, 0, 1, 99999, 100000, 100001) {
			e, ok := plainEntryAt(l, index)
			wantEntryAt(t, why, l, index, e, ok)
			if ok {
				there++
			} else {
				gone++
			}
		}
	}
	if there < 400 || gone < 4000 {
		t.Errorf("%d entries are there, %d are not", there, gone)
	}
}

func TestWholeByHand(t *testing.T) {
	a := appliedOf(1, 3, 4, commandOf(1, "x"))
	has, lacks := ordinaryLog(), logOf(2, 1, noneOf(1))
	others := logOf(2, 1, noneOf(1), commandOf(2, "x"))
	for _, c := range []struct {
		why string
		log impl.Log
		ok  bool
	}{
		{"it has the entry", has, true},
		{"it has not so many entries", lacks, false},
		{"it has no entries", logOf(2, 1), false},
		{"it is bare", impl.Log{}, false},
		{"the entry of another Term", others, false},
		{"the entry of another Kind", logOf(2, 1, noneOf(1), noneOf(1)), false},
		{"the entry of another Data", logOf(2, 1, noneOf(1), commandOf(1, "y")), false},
		{"it begins below the index", logOf(3, 1, commandOf(1, "x")), true},
		{"it begins below the index, another entry", logOf(3, 1, commandOf(1, "y")), false},
		{"it begins below the index, no entry", logOf(3, 1), false},
		{"it begins at the index", logOf(4, 1), true},
		{"it begins at the index, with entries", logOf(4, 1, noneOf(2)), true},
		{"it begins above the index", logOf(5, 1), true},
		{"the same entry at another index", logOf(2, 1, commandOf(1, "x"), noneOf(1)), false},
		{"it has it, but is not right", logOf(2, 1, noneOf(1), commandOf(1, "x"), noneOf(0)), false},
		{"it begins at the index, but is not right", logOf(4, 7, noneOf(1)), true},
		{"it begins above all indexes", logOf(math.MaxInt, 0), true},
		{"it begins below all indexes", logOf(math.MinInt, 0, commandOf(1, "x")), false},
	} {
		for _, term := range []int{math.MinInt, -1, 0, 1, 2, 3, 4, 5, 100000, math.MaxInt} {
			ok := c.ok || term <= 3
			one := leaderOf(2, term, c.log)
			wantWhole(t, c.why, []impl.Leader{one}, a, ok)
			before := []impl.Leader{leaderOf(1, 4, has), ledBare(3, 3), leaderOf(2, 9, logOf(9, 9))}
			inTwoPlaces(before, one, leaderOf(1, 5, has), func(list []impl.Leader) { wantWhole(t, c.why, list, a, ok) })
			inTwoPlaces(before, one, leaderOf(1, 5, lacks), func(list []impl.Leader) { wantWhole(t, "another one lacks it", list, a, false) })
			inTwoPlaces(before, one, leaderOf(1, 3, lacks), func(list []impl.Leader) { wantWhole(t, "another one of the Term lacks it", list, a, ok) })
		}
	}
}

// What is applied may be anything.
func TestWholeOfOddIndexes(t *testing.T) {
	logs := []impl.Log{{}, logOf(0, 0, noneOf(0)), ordinaryLog(), logOf(100000, 3), logOf(-1, 0, noneOf(0)), logOf(math.MaxInt, 0), logOf(math.MinInt, 0), logOfMany(0, 0, 121)}
	for _, index := range append(farNumbers(), -2, -1, 0, 1, 2, 3, 7, 100000, 100001) {
		for _, e := range []impl.Entry{{}, noneOf(0), noneOf(1), entryOf(-1, 9, "x")} {
			for _, l := range logs {
				for _, term := range []int{math.MinInt, -1, 0, 1, math.MaxInt} {
					a := appliedOf(1, term, index, e)
					list := []impl.Leader{leaderOf(1, 1, l), leaderOf(1, math.MinInt, l)}
					wantWhole(t, "an odd one", list, a, plainWhole(list, a))
				}
			}
		}
	}
	zero := impl.Applied{Index: 1}
	wantWhole(t, "no Entry, and none there", []impl.Leader{ledBare(1, 1)}, zero, false)
	wantWhole(t, "no Entry, and a log that is not right", []impl.Leader{leaderOf(1, 1, logOf(0, 0, impl.Entry{}))}, zero, false)
}
