package tests

import (
	"fmt"
	"slices"
	"testing"

	"loop.example/g00103/impl"
)

// comes is what is to come of a server: it behind a change, and its disk behind
// the raw writes.
func comes(s impl.Server, change func(s *impl.Server), raws ...impl.Raw) served {
	now := serverWith(s, change)
	now.Disk, _ = oneByOne(s.Disk, raws)
	return served{server: now, raws: raws, ok: true}
}

func (o served) telling(list ...impl.Message) served {
	o.told = list
	return o
}

func (o served) having(list ...impl.Done) served {
	o.done = list
	return o
}

func (o served) at(index int) served {
	o.index = index
	return o
}

func doneOf(index int, e impl.Entry, reply string) impl.Done {
	return impl.Done{Index: index, Entry: e, Reply: reply}
}

// statesOf are the maps by stamp that a server may have from ahead of an answer
// to behind it.
func statesOf(s impl.Server, o served) map[int][]impl.Pair {
	state, _ := plainShelfMap(s.Disk, s.Shelf)
	states := map[int][]impl.Pair{s.Shelf.Stamp: state}
	for _, d := range o.done {
		state, _ = plainState(state, d.Index, d.Entry)
		states[d.Index] = state
	}
	if len(o.done) == 0 && o.server.Shelf.Stamp > s.Shelf.Stamp {
		states[o.server.Shelf.Stamp], _ = plainShelfMap(o.server.Disk, o.server.Shelf)
	}
	return states
}

// wantServeSound holds an answer against the promises: the raw writes leave the
// disk, what is applied goes on from the shelf's Stamp, and the server that
// comes up on the disk has the Term, the Vote, the log and the map.
func wantServeSound(t *testing.T, why string, s impl.Server, o served) {
	t.Helper()
	if !o.ok {
		if !sameServed(o, served{}) {
			t.Errorf("%s: %s beside a false", why, shortServed(o))
		}
		return
	}
	if d, done := impl.PutRaws(s.Disk, o.raws); done != len(o.raws) || !sameDisk(d, o.server.Disk) {
		t.Errorf("%s: the raw writes %s, done on %s, leave %s; the disk is %s", why, shortRaws(o.raws), short(s.Disk), short(d), short(o.server.Disk))
	}
	wantServer(t, why, o.server, true)
	wantSound(t, why, s.Node, outcome{o.server.Node, o.told, o.index, true})
	for at, d := range o.done {
		index := s.Shelf.Stamp + 1 + at
		log := o.server.Node.Log
		if d.Index != index || index <= log.Start || d.Entry != log.Entries[index-log.Start-1] {
			t.Errorf("%s: done is %v behind the Stamp %d", why, d, s.Shelf.Stamp)
		}
	}
	states := statesOf(s, o)
	up, list, code := impl.Boot(s.Node.Id, o.server.Disk, s.Node.Limit)
	m, ok := impl.ShelfMap(up.Disk, up.Shelf)
	want, reached := states[up.Shelf.Stamp]
	if code != 0 || len(list) > 0 || !sameShelf(up.Shelf, o.server.Shelf) || !ok || !reached || !slices.Equal(m, want) {
		t.Errorf("%s: come up again %s, %s, %d, has the map %v; want %v", why, shortServer(up), shortRaws(list), code, m, want)
	}
	a, b := up.Node, o.server.Node
	if a.Term != b.Term || a.Vote != b.Vote || !sameLog(a.Log, b.Log) || !slices.Equal(a.Conf, b.Conf) || a.Commit != up.Shelf.Stamp {
		t.Errorf("%s: come up again it is %s; was %s", why, shortNode(a), shortNode(b))
	}
}

// wantCutSafe has the power go at one place of the raw writes of an answer.
func wantCutSafe(t *testing.T, why string, s impl.Server, o served, states map[int][]impl.Pair, whole, part int) {
	t.Helper()
	d, ok := impl.CutRaws(s.Disk, o.raws, whole, part)
	up, _, code := impl.Boot(s.Node.Id, d, s.Node.Limit)
	if !ok || code != 0 {
		t.Errorf("%s: cut behind %d and %d bytes of %s it does not come up: %v, code %d", why, whole, part, shortRaws(o.raws), ok, code)
		return
	}
	why = fmt.Sprintf("%s, cut behind %d and %d bytes of %s", why, whole, part, shortRaws(o.raws))
	cast := [2]int{up.Node.Term, up.Node.Vote}
	if cast != [2]int{s.Node.Term, s.Node.Vote} && cast != [2]int{o.server.Node.Term, o.server.Node.Vote} {
		t.Errorf("%s: the Term and the Vote are %v", why, cast)
	}
	if up.Node.Term < s.Node.Term || up.Node.Term == s.Node.Term && s.Node.Vote != 0 && up.Node.Vote != s.Node.Vote {
		t.Errorf("%s: the Term fell, or the Vote is another: %v", why, cast)
	}
	m, right := impl.ShelfMap(up.Disk, up.Shelf)
	state, reached := states[up.Shelf.Stamp]
	if !right || !reached || up.Shelf.Stamp < s.Shelf.Stamp || !slices.Equal(m, state) {
		t.Errorf("%s: the map at %d is %v, %v; want %v", why, up.Shelf.Stamp, m, right, state)
	}
	last, _ := plainLast(up.Node.Log)
	if last < s.Node.Commit {
		t.Errorf("%s: the log ends at %d; %d was committed", why, last, s.Node.Commit)
	}
	for index := up.Node.Log.Start + 1; index <= min(last, s.Node.Commit); index++ {
		if up.Node.Log.Entries[index-up.Node.Log.Start-1] != s.Node.Log.Entries[index-s.Node.Log.Start-1] {
			t.Errorf("%s: the committed entry %d is another", why, index)
		}
	}
	wantUp(t, why, up)
}

// wantCutsSafe has the power go at every byte of the raw writes.
func wantCutsSafe(t *testing.T, why string, s impl.Server, o served) {
	t.Helper()
	states := statesOf(s, o)
	for whole := range len(o.raws) + 1 {
		most := 0
		if whole < len(o.raws) && o.raws[whole].Kind <= impl.RawAdd {
			most = len(o.raws[whole].Text)
		}
		for part := range most + 1 {
			wantCutSafe(t, why, s, o, states, whole, part)
		}
	}
}

// wantServe holds an answer, and the plain rule's, against what is written out;
// and against the promises, wherever it is cut.
func wantServe(t *testing.T, why string, s impl.Server, in impl.Input, want served) served {
	t.Helper()
	if plain := plainServe(s, in); !sameServed(plain, want) {
		t.Errorf("%s: the plain rule tells of %s\n%s\ncomes %s\nwant %s", why, shortServer(s), shortInput(in), shortServed(plain), shortServed(want))
	}
	got := serve(s, in)
	if !sameServed(got, want) {
		t.Errorf("%s: of %s\n%s\ncomes %s\nwant %s", why, shortServer(s), shortInput(in), shortServed(got), shortServed(want))
		return got
	}
	wantServeSound(t, why, s, got)
	wantCutsSafe(t, why, s, got)
	return got
}

// wantPlainServe holds an answer against the plain rule's, and the promises.
func wantPlainServe(t *testing.T, why string, s impl.Server, in impl.Input) served {
	t.Helper()
	return wantServe(t, why, s, in, plainServe(s, in))
}

func wantNoServe(t *testing.T, why string, s impl.Server, in impl.Input) {
	t.Helper()
	wantServe(t, why, s, in, served{})
}

// entryFrames are those of entries from an index on.
func entryFrames(index int, list ...impl.Entry) string {
	text := ""
	for at, e := range list {
		text += plainFrame(plainEntryText(index+at, e))
	}
	return text
}

func commandEntry(term int, c impl.Command) impl.Entry { return commandOf(term, plainCommandText(c)) }

// committedTo is the server with a Commit that is not applied.
func committedTo(s impl.Server, commit int) impl.Server {
	return serverWith(s, func(s *impl.Server) { s.Node.Commit = commit })
}

// leadServer leads in the Term 4 on a disk like bootDisk: of its conf 1 2 3.
func leadServer(t *testing.T) impl.Server {
	t.Helper()
	s := serverOn(t, 1, nodeDisk(bootShelf(), bootLog(), cast{4, 1}))
	return serverWith(s, func(s *impl.Server) {
		s.Node.Role, s.Node.Lead = 2, 1
		s.Node.Peers = []impl.Peer{{Id: 2, Next: 7, Match: 3}, {Id: 3, Next: 5, Match: 4}}
	})
}

// aloneServer leads nobody but itself, in the Term 1; its entry 1 is applied.
func aloneServer(t *testing.T) impl.Server {
	t.Helper()
	d, _ := impl.FormatDisk(numbers(1))
	s, _, _ := impl.Boot(1, d, 1)
	return serve(s, tickOf(3)).server
}

func TestServeTickOfOneAlone(t *testing.T) {
	d, _ := impl.FormatDisk(numbers(1))
	s, _, _ := impl.Boot(1, d, 1)
	want := comes(s, func(s *impl.Server) {
		s.Node = impl.Node{Id: 1, Term: 1, Vote: 1, Role: 2, Lead: 1, Conf: numbers(1), Log: logOf(0, 0, noneOf(1)), Commit: 1, Limit: 3}
		s.Shelf.Stamp = 1
	},
		add("vote", "\x02"+plainSeal("\x01\x01")+"\x01\x01"),
		add("log", "\x04"+plainSeal("E\x01\x01\x01")+"E\x01\x01\x01"),
		add("g0", "\x02"+plainSeal("\x01\x00")+"\x01\x00"))
	wantServe(t, "the first tick", s, tickOf(3), want.having(doneOf(1, noneOf(1), "")))
}

func TestServeTickThatWritesNothing(t *testing.T) {
	s := bootServer(1, 5)
	wantServe(t, "a follower waits", s, tickOf(9), comes(s, func(s *impl.Server) { s.Node.Clock = 1 }))
	l := leadServer(t)
	wantServe(t, "a leader reminds", l, tickOf(9), comes(l, func(*impl.Server) {}).telling(
		asks(3, 1, 2, 4, 6, 3, 4),
		asks(3, 1, 3, 4, 4, 2, 4, confOf(2, "\x01\x02\x03"), noneOf(3))))
	other := serverWith(s, func(s *impl.Server) { s.Node.Id, s.Node.Clock = 4, 4 })
	wantServe(t, "one of no conf waits on", other, tickOf(9), comes(other, func(s *impl.Server) { s.Node.Clock, s.Node.Limit = 0, 9 }))
	for _, limit := range append(farNumbers(), -1, 0, 21) {
		wantNoServe(t, "a limit that is none", s, tickOf(limit))
		wantNoServe(t, "a limit that is none, of one that leads", l, tickOf(limit))
	}
}

func TestServeTickThatStands(t *testing.T) {
	s := serverWith(bootServer(2, 5), func(s *impl.Server) { s.Node.Clock, s.Node.Lead = 4, 3 })
	want := comes(s, func(s *impl.Server) { s.Node = stood(s.Node, 9) }, add("vote", plainVote(cast{5, 2})))
	wantServe(t, "it stands", s, tickOf(9), want.telling(asks(1, 2, 1, 5, 6, 3, 0), asks(1, 2, 3, 5, 6, 3, 0)))
}

// votesOfSize are votes of Terms below 5 in a file of so many bytes: there are
// frames of 7, 8 and 9 of them.
func votesOfSize(t *testing.T, n int, last cast) string {
	t.Helper()
	rest := n - len(plainVote(last))
	for long := range 7 {
		for longer := range 7 {
			if left := rest - 8*long - 9*longer; left >= 0 && left%7 == 0 {
				list := slices.Concat(slices.Repeat([]cast{{2, 1}}, left/7), slices.Repeat([]cast{{200, 1}}, long), slices.Repeat([]cast{{20000, 2}}, longer))
				return plainVotes(append(list, last)...)
			}
		}
	}
	t.Fatalf("no votes have %d bytes", n)
	return ""
}

func TestServeWritesVotesByTheSizeOfTheFile(t *testing.T) {
	for _, size := range numbers(7, 14, 100, 192, 193, 198, 199, 200, 201, 202, 207, 400, 19993, 20000) {
		file := votesOfSize(t, size, cast{4, 3})
		if len(file) != size {
			t.Fatalf("votes of %d bytes, not %d", len(file), size)
		}
		s := bootServerWith(func(s *impl.Server) {
			s.Disk = withFiles(s.Disk, "vote", file)
			s.Node.Clock = 4
		})
		raws := []impl.Raw{add("vote", plainVote(cast{5, 1}))}
		if size >= 200 {
			raws = []impl.Raw{put("vote+", plainVote(cast{5, 1})), move("vote+", "vote")}
		}
		want := comes(s, func(s *impl.Server) { s.Node = stood(s.Node, 5) }, raws...)
		why := fmt.Sprint("a file of ", size, " bytes")
		wantServe(t, why, s, tickOf(5), want.telling(asks(1, 1, 2, 5, 6, 3, 0), asks(1, 1, 3, 5, 6, 3, 0)))
		wantServe(t, why+", which stays", s, comingOf(asks(1, 2, 1, 4, 9, 9, 0)), comes(s, func(*impl.Server) {}).telling(tells(2, 1, 2, 4, false, 0)))
	}
	d, _ := impl.FormatDisk(numbers(1, 2))
	for why, disk := range map[string]impl.Disk{"no file": d, "an empty file": withFiles(d, "vote", "")} {
		s := serverOn(t, 1, disk)
		want := comes(s, func(s *impl.Server) { s.Node.Vote = 2 }, add("vote", plainVote(cast{0, 2})))
		wantServe(t, why, s, comingOf(asks(1, 2, 1, 0, 0, 0, 0)), want.telling(tells(2, 1, 2, 0, true, 0)))
		want = comes(s, func(s *impl.Server) { s.Node.Term = 7 }, add("vote", plainVote(cast{7, 0})))
		wantServe(t, why+", a Term", s, comingOf(tells(2, 2, 1, 7, true, 0)), want)
	}
}

func TestServeWritesATermAndAVoteThatChange(t *testing.T) {
	s := serverOn(t, 1, nodeDisk(bootShelf(), bootLog(), cast{4, 0}))
	told := func(term int, ok bool) impl.Message { return tells(2, 1, 2, term, ok, 0) }
	same := comes(s, func(*impl.Server) {})
	wantServe(t, "of a Term below", s, comingOf(asks(1, 2, 1, 3, 9, 9, 0)), same.telling(told(4, false)))
	wantServe(t, "of a log below", s, comingOf(asks(1, 2, 1, 4, 5, 3, 0)), same.telling(told(4, false)))
	voted := comes(s, func(s *impl.Server) { s.Node.Vote = 2 }, add("vote", plainVote(cast{4, 2})))
	wantServe(t, "a Vote alone", s, comingOf(asks(1, 2, 1, 4, 6, 3, 0)), voted.telling(told(4, true)))
	again := comes(voted.server, func(*impl.Server) {})
	wantServe(t, "the Vote again", voted.server, comingOf(asks(1, 2, 1, 4, 6, 3, 0)), again.telling(told(4, true)))
	term := comes(s, func(s *impl.Server) { s.Node.Term = 9 }, add("vote", plainVote(cast{9, 0})))
	wantServe(t, "a Term alone", s, comingOf(asks(1, 2, 1, 9, 5, 3, 0)), term.telling(told(9, false)))
	both := comes(s, func(s *impl.Server) { s.Node.Term, s.Node.Vote = 100000, 2 }, add("vote", plainVote(cast{100000, 2})))
	wantServe(t, "both", s, comingOf(asks(1, 2, 1, 100000, 6, 3, 0)), both.telling(told(100000, true)))
	wantServe(t, "a TellVote of a Term above", s, comingOf(tells(2, 2, 1, 6, true, 0)),
		comes(s, func(s *impl.Server) { s.Node.Term = 6 }, add("vote", plainVote(cast{6, 0}))))
	wantServe(t, "a TellAppend of a Term above", s, comingOf(tells(4, 2, 1, 6, true, 0)),
		comes(s, func(s *impl.Server) { s.Node.Term = 6 }, add("vote", plainVote(cast{6, 0}))))
}

func TestServeWritesALogThatChanges(t *testing.T) {
	s := bootServer(1, 5)
	led := func(change func(n *impl.Node)) func(s *impl.Server) {
		return func(s *impl.Server) {
			s.Node.Lead = 2
			change(&s.Node)
		}
	}
	told := tells(4, 1, 2, 4, true, 8)
	more := entries(noneOf(3), commandOf(4, "new"))
	want := comes(s, led(func(n *impl.Node) { n.Log.Entries = append(n.Log.Entries, more...) }), add("log", entryFrames(7, more...)))
	wantServe(t, "two entries more", s, comingOf(asks(3, 2, 1, 4, 6, 3, 0, more...)), want.telling(told))
	again := comes(want.server, func(*impl.Server) {})
	wantServe(t, "the same again", want.server, comingOf(asks(3, 2, 1, 4, 6, 3, 0, more...)), again.telling(told))
	told.Index = 6
	others := entries(confOf(3, "\x01"), noneOf(4))
	want = comes(s, led(func(n *impl.Node) { n.Log = logOf(2, 1, append(cutLog(bootLog(), 2).Entries, others...)...) }), add("log", entryFrames(5, others...)))
	wantServe(t, "two others", s, comingOf(asks(3, 2, 1, 4, 4, 2, 0, others...)), want.telling(told))
	told.Index = 5
	want = comes(s, led(func(n *impl.Node) { n.Log = logOf(2, 1, append(cutLog(bootLog(), 2).Entries, noneOf(4))...) }), add("log", entryFrames(5, noneOf(4))))
	wantServe(t, "one for two", s, comingOf(asks(3, 2, 1, 4, 4, 2, 0, noneOf(4))), want.telling(told))
	want = comes(s, led(func(n *impl.Node) { n.Term, n.Vote, n.Log.Entries = 6, 0, append(n.Log.Entries, noneOf(6)) }), add("vote", plainVote(cast{6, 0})), add("log", entryFrames(7, noneOf(6))))
	told = tells(4, 1, 2, 6, true, 7)
	wantServe(t, "a Term, and an entry of it", s, comingOf(asks(3, 2, 1, 6, 6, 3, 0, noneOf(6))), want.telling(told))
	refused := comes(s, led(func(*impl.Node) {}))
	wantServe(t, "no entry ahead of it", s, comingOf(asks(3, 2, 1, 4, 9, 3, 0, noneOf(4))), refused.telling(tells(4, 1, 2, 4, false, 6)))
	wantServe(t, "of a Term below", s, comingOf(asks(3, 2, 1, 3, 6, 3, 0, noneOf(3))), comes(s, func(*impl.Server) {}).telling(tells(4, 1, 2, 4, false, 0)))
}

// A log's file that has no room for the entries is put anew.
func TestServeOfALogFileThatIsFull(t *testing.T) {
	shelf, _ := impl.FormatShelf(numbers(1, 2))
	frame := len(entryFrames(2, commandOf(1, "new")))
	for _, size := range numbers(19000, 20000-frame-1, 20000-frame, 20000-frame+1, 20000) {
		file, log := fileOfSize(size)
		s := serverOn(t, 1, withFiles(shelf, "log", file, "vote", plainVote(cast{1, 0})))
		now := logOf(0, 0, append(log.Entries, commandOf(1, "new"))...)
		raws := []impl.Raw{add("log", entryFrames(2, commandOf(1, "new")))}
		if size > 20000-frame {
			raws = []impl.Raw{put("log+", plainLogFile(now)), move("log+", "log")}
		}
		want := comes(s, func(s *impl.Server) { s.Node.Log, s.Node.Lead = now, 2 }, raws...)
		wantServe(t, fmt.Sprint("a file of ", size), s, comingOf(asks(3, 2, 1, 1, 1, 1, 0, commandOf(1, "new"))), want.telling(tells(4, 1, 2, 1, true, 2)))
	}
}

func TestServeMessagesThatAreNone(t *testing.T) {
	s := bootServer(1, 5)
	right := asks(1, 2, 1, 4, 9, 9, 0)
	ship := shipping(s, 9, 4, 0, "x", false)
	for why, m := range map[string]impl.Message{
		"no Kind":                  messageWith(right, func(m *impl.Message) { m.Kind = 0 }),
		"a Kind above":             messageWith(right, func(m *impl.Message) { m.Kind = 7 }),
		"from itself":              messageWith(right, func(m *impl.Message) { m.From = 1 }),
		"from nobody":              messageWith(right, func(m *impl.Message) { m.From = 0 }),
		"from one above":           messageWith(right, func(m *impl.Message) { m.From = 5 }),
		"a Term above":             messageWith(right, func(m *impl.Message) { m.Term = 100001 }),
		"a Term below 0":           messageWith(right, func(m *impl.Message) { m.Term = -1 }),
		"a LogTerm above":          messageWith(ship, func(m *impl.Message) { m.LogTerm = 100001 }),
		"an Index above":           messageWith(ship, func(m *impl.Message) { m.Index = 100001 }),
		"a Commit above":           messageWith(ship, func(m *impl.Message) { m.Commit = 100001 }),
		"no Conf to be shipped":    messageWith(ship, func(m *impl.Message) { m.Conf = nil }),
		"a Conf that falls":        messageWith(ship, func(m *impl.Message) { m.Conf = numbers(2, 1) }),
		"a piece too long":         messageWith(ship, func(m *impl.Message) { m.Data = letters(61) }),
		"an entry to be shipped":   messageWith(ship, func(m *impl.Message) { m.Entries = entries(noneOf(1)) }),
		"Data of a vote":           messageWith(right, func(m *impl.Message) { m.Data = "x" }),
		"five entries":             asks(3, 2, 1, 4, 6, 3, 0, slices.Repeat(entries(noneOf(3)), 5)...),
		"an entry of a Term above": asks(3, 2, 1, 4, 6, 3, 0, noneOf(5)),
	} {
		wantNoServe(t, why, s, comingOf(m))
	}
	wantNoServe(t, "to another", s, comingOf(messageWith(right, func(m *impl.Message) { m.To = 3 })))
	wantNoServe(t, "no message", s, comingOf(impl.Message{}))
}

func TestServeKindsThatAreNone(t *testing.T) {
	for _, s := range []impl.Server{bootServer(1, 5), leadServer(t), aloneServer(t)} {
		for _, kind := range append(farNumbers(), -1, 0, 5, 6) {
			in := impl.Input{Kind: kind, Limit: 3, Message: asks(1, 2, 1, 4, 9, 9, 0), Entry: 3, Data: "x"}
			wantNoServe(t, fmt.Sprint("the Kind ", kind), s, in)
		}
	}
	wantNoServe(t, "no input", bootServer(1, 5), impl.Input{})
}

// Each Kind looks at no other field than its own.
func TestServeFieldsOfOtherKinds(t *testing.T) {
	s := aloneServer(t)
	snap := shipping(s, 9, 1, 0, segmentOf(batchOf(9)), true)
	for _, m := range []impl.Message{snap, {}, {Kind: -1}, asks(1, 2, 1, 9, 9, 9, 0)} {
		for _, c := range []impl.Input{tickOf(4), planOf(3, "x"), mergeInput()} {
			loud := c
			loud.Message = m
			if c.Kind != impl.InTick {
				loud.Limit = -9
			}
			if c.Kind != impl.InPropose {
				loud.Entry, loud.Data = -9, letters(500)
			}
			if a, b := serve(s, c), serve(s, loud); !a.ok || !sameServed(a, b) {
				t.Errorf("of %s and of %s\ncome %s\n%s", shortInput(c), shortInput(loud), shortServed(a), shortServed(b))
			}
		}
	}
	loud := comingOf(snap)
	quiet := serve(s, loud)
	loud.Limit, loud.Entry, loud.Data = 99, 99, "x"
	if o := serve(s, loud); !o.ok || !sameServed(o, quiet) {
		t.Errorf("a message with other fields: %s; want %s", shortServed(o), shortServed(quiet))
	}
}

func TestServeProposals(t *testing.T) {
	s := aloneServer(t)
	open := commandEntry(1, openNew())
	want := comes(s, func(s *impl.Server) {
		s.Node.Log.Entries = append(s.Node.Log.Entries, open)
		s.Node.Commit = 2
		s.Shelf.Stamp, s.Shelf.Dir = 2, spots(spot("n", 0, 18, 1), spot("s1", 0, 24, 4))
	}, add("log", entryFrames(2, open)), add("g0", segmentOf(batchOf(2, set("n", "2"), set("s1", "0 2 ")))))
	o := wantServe(t, "a session", s, planOf(3, open.Data), want.at(2).having(doneOf(2, open, "open 1")))
	sequence := []struct {
		c     impl.Command
		reply string
		batch impl.Batch
	}{
		{putOf(1, 1, "a", "x"), "put", batchOf(3, set("ka", "x"), set("s1", "1 3 put"))},
		{putOf(1, 1, "a", "x"), "put", batchOf(4)},
		{getOf(1, 2, "a"), "got x", batchOf(5, set("s1", "2 5 got x"))},
		{getOf(1, 9, "a"), "gap", batchOf(6)},
		{putOf(1, 1, "a", "z"), "stale", batchOf(7)},
		{putOf(2, 1, "a", "z"), "expired", batchOf(8)},
		{swapOf(1, 3, "a", "y", "x"), "swapped", batchOf(9, set("ka", "y"), set("s1", "3 9 swapped"))},
		{cutOf(1, 4, "a"), "cut", batchOf(10, gone("ka"), set("s1", "4 10 cut"))},
		{cutOf(1, 5, "a"), "none", batchOf(11, set("s1", "5 11 none"))},
	}
	for at, c := range sequence {
		s = o.server
		index := at + 3
		e := commandEntry(1, c.c)
		o = wantPlainServe(t, fmt.Sprint("the entry ", index), s, planOf(3, e.Data))
		raws := []impl.Raw{add("log", entryFrames(index, e)), add("g0", segmentOf(c.batch))}
		if o.index != index || !slices.Equal(o.done, []impl.Done{doneOf(index, e, c.reply)}) || !slices.Equal(o.raws, raws) {
			t.Errorf("of %v comes %s; want %q and %s", c.c, shortServed(o), c.reply, shortRaws(raws))
		}
	}
}

func TestServeProposalsOfALeader(t *testing.T) {
	s := leadServer(t)
	e := commandOf(4, "x")
	want := comes(s, func(s *impl.Server) { s.Node.Log.Entries = append(s.Node.Log.Entries, e) }, add("log", entryFrames(7, e)))
	wantServe(t, "a command", s, planOf(3, "x"), want.at(7).telling(
		asks(3, 1, 2, 4, 6, 3, 4, e), asks(3, 1, 3, 4, 4, 2, 4, confOf(2, "\x01\x02\x03"), noneOf(3), e)))
	none := comes(s, func(s *impl.Server) { s.Node.Log.Entries = append(s.Node.Log.Entries, noneOf(4)) }, add("log", entryFrames(7, noneOf(4))))
	wantServe(t, "nothing", s, planOf(1, ""), none.at(7).telling(
		asks(3, 1, 2, 4, 6, 3, 4, noneOf(4)), asks(3, 1, 3, 4, 4, 2, 4, confOf(2, "\x01\x02\x03"), noneOf(3), noneOf(4))))
	wantNoServe(t, "a conf while one stands behind Commit", s, planOf(2, "\x01\x02"))
	wantNoServe(t, "no Kind", s, planOf(0, ""))
	wantNoServe(t, "a Kind above", s, planOf(4, ""))
	wantNoServe(t, "nothing, with Data", s, planOf(1, "x"))
	wantNoServe(t, "a command that is too long", s, planOf(3, letters(121)))
	wantNoServe(t, "one that follows", bootServer(1, 5), planOf(1, ""))
	wantNoServe(t, "one that stands", bootServerWith(func(s *impl.Server) { s.Node.Role, s.Node.Votes = 1, numbers(1) }), planOf(1, ""))
	alone := aloneServer(t)
	o := wantPlainServe(t, "one more node", alone, planOf(2, "\x01\x02"))
	if o.index != 2 || len(o.told) != 1 || o.told[0].To != 2 || len(o.done) != 0 || len(o.raws) != 1 || o.server.Node.Commit != 1 {
		t.Errorf("one more node: %s", shortServed(o))
	}
	wantNoServe(t, "two more nodes", alone, planOf(2, "\x01\x02\x03"))
	wantNoServe(t, "the same conf", alone, planOf(2, "\x01"))
	wantNoServe(t, "no conf", alone, planOf(2, ""))
}

// applyServer has count entries behind the Stamp 0, none of them committed yet.
func applyServer(t *testing.T, list ...impl.Entry) impl.Server {
	t.Helper()
	shelf, _ := impl.FormatShelf(numbers(1, 2))
	return serverOn(t, 1, nodeDisk(shelf, logOf(0, 0, list...), cast{3, 0}))
}

func TestServeAppliesAtMostSix(t *testing.T) {
	var list []impl.Entry
	for at := range 20 {
		list = append(list, commandOf(1, fmt.Sprint(at)))
	}
	fresh := applyServer(t, list...)
	for commit := range 21 {
		s := committedTo(fresh, commit)
		stamp := 0
		for round := range 5 {
			o := wantPlainServe(t, fmt.Sprint("Commit ", commit, " round ", round), s, tickOf(5))
			count := min(6, commit-stamp)
			if len(o.done) != count || len(o.raws) != count || o.server.Shelf.Stamp != stamp+count || o.server.Node.Commit != commit {
				t.Errorf("Commit %d, Stamp %d: %s", commit, stamp, shortServed(o))
			}
			for at, d := range o.done {
				index := stamp + 1 + at
				if d != doneOf(index, list[index-1], "") || o.raws[at] != add("g0", segmentOf(batchOf(index))) {
					t.Errorf("Commit %d, Stamp %d: done is %v by %s", commit, stamp, d, shortRaws(o.raws[at:at+1]))
				}
			}
			stamp += count
			s = serverWith(o.server, func(s *impl.Server) { s.Node.Clock = 0 })
		}
	}
}

// Whatever the input is, what is committed is applied; but where it is merged.
func TestServeAppliesByEachKind(t *testing.T) {
	e := commandEntry(1, openNew())
	s := committedTo(applyServer(t, noneOf(1), e, noneOf(2)), 2)
	raws := []impl.Raw{add("g0", segmentOf(batchOf(1))), add("g0", segmentOf(batchOf(2, set("n", "2"), set("s1", "0 2 "))))}
	done := []impl.Done{doneOf(1, noneOf(1), ""), doneOf(2, e, "open 1")}
	then := func(change func(n *impl.Node)) func(s *impl.Server) {
		return func(s *impl.Server) {
			change(&s.Node)
			s.Shelf.Stamp, s.Shelf.Dir = 2, spots(spot("n", 0, 18, 1), spot("s1", 0, 24, 4))
		}
	}
	wantServe(t, "InTick", s, tickOf(5), comes(s, then(func(n *impl.Node) { n.Clock = 1 }), raws...).having(done...))
	wantServe(t, "InMessage", s, comingOf(tells(2, 2, 1, 3, true, 0)), comes(s, then(func(*impl.Node) {}), raws...).having(done...))
	wantServe(t, "InMerge at the Base", s, mergeInput(), comes(s, then(func(*impl.Node) {}), raws...).having(done...))
	vote := add("vote", plainVote(cast{9, 0}))
	wantServe(t, "InMessage of a Term above", s, comingOf(tells(2, 2, 1, 9, true, 0)), comes(s, then(func(n *impl.Node) { n.Term = 9 }), append([]impl.Raw{vote}, raws...)...).having(done...))
	more := asks(3, 2, 1, 3, 3, 2, 2, noneOf(3))
	log := add("log", entryFrames(4, noneOf(3)))
	want := comes(s, then(func(n *impl.Node) { n.Lead, n.Log.Entries = 2, append(n.Log.Entries, noneOf(3)) }), append([]impl.Raw{log}, raws...)...)
	wantServe(t, "AskAppend", s, comingOf(more), want.having(done...).telling(tells(4, 1, 2, 3, true, 4)))
	install := comes(s, then(func(n *impl.Node) { n.Lead = 2 }), raws...).having(done...)
	wantServe(t, "AskInstall up to Commit", s, comingOf(ships(2, 1, 3, 2, 1, 0, 1, 2)), install.telling(tells(6, 1, 2, 3, true, 2)))
	lead := serverWith(s, func(s *impl.Server) { s.Node.Role, s.Node.Lead, s.Node.Peers = 2, 1, []impl.Peer{{Id: 2, Next: 4}} })
	o := wantPlainServe(t, "InPropose", lead, planOf(1, ""))
	if o.index != 4 || !slices.Equal(o.done, done) || len(o.raws) != 3 || o.raws[0].Name != "log" {
		t.Errorf("InPropose: %s", shortServed(o))
	}
}

// changingNothing are entries that leave each state as it is.
func changingNothing() map[string]impl.Entry {
	long := plainCommandText(putOf(1, 1, "a", "x"))
	return map[string]impl.Entry{
		"nothing":                   noneOf(1),
		"a conf":                    confOf(1, "\x01\x02\x03"),
		"no Data":                   commandOf(1, ""),
		"words":                     commandOf(1, "words"),
		"a command cut":             commandOf(1, long[:len(long)-1]),
		"a command and a byte":      commandOf(1, long+"\x00"),
		"no Op":                     commandOf(1, "\x00\x01\x01\x01a\x01x\x00"),
		"an Op above":               commandOf(1, "\x06\x01\x01\x01a\x01x\x00"),
		"no Key":                    commandEntry(1, putOf(1, 1, "", "x")),
		"a Key of too many":         commandEntry(1, putOf(1, 1, letters(10), "x")),
		"a Value of too many":       commandEntry(1, putOf(1, 1, "a", letters(13))),
		"Old of OpPut":              commandEntry(1, impl.Command{Op: 3, Session: 1, Seq: 1, Key: "a", Old: "x"}),
		"a longer form of a number": commandOf(1, "\x03\x81\x00\x01\x01a\x01x\x00"),
		"the most Data":             commandOf(1, letters(120)),
	}
}

func TestServeEntriesThatChangeNothing(t *testing.T) {
	open, put := commandEntry(1, openNew()), commandEntry(1, putOf(1, 1, "a", "x"))
	for why, e := range changingNothing() {
		s := committedTo(applyServer(t, open, e, put), 3)
		o := wantPlainServe(t, why, s, tickOf(5))
		want := []impl.Done{doneOf(1, open, "open 1"), doneOf(2, e, ""), doneOf(3, put, "put")}
		if !slices.Equal(o.done, want) || len(o.raws) != 3 || o.raws[1] != add("g0", segmentOf(batchOf(2))) {
			t.Errorf("%s: %s", why, shortServed(o))
		}
		m, _ := impl.ShelfMap(o.server.Disk, o.server.Shelf)
		if !slices.Equal(m, stateOf("ka", "x", "n", "2", "s1", "1 3 put")) {
			t.Errorf("%s: the map is %v", why, m)
		}
	}
}

// Commands that Act refuses leave the state as it was.
func TestServeCommandsThatActRefuses(t *testing.T) {
	full := mapOfMany("k", 58, "x")
	for why, c := range map[string]struct {
		state []impl.Pair
		c     impl.Command
	}{
		"a session's value that is none":   {stateOf("s1", "words"), openNew()},
		"another session's that is none":   {stateOf("s1", "0 0 ", "s2", "0"), putOf(1, 1, "a", "x")},
		"a next session that is none":      {stateOf("n", "x"), openNew()},
		"more keys than there may be":      {stateWith(full, "s1", "0 0 ", "n", "2"), putOf(1, 1, "zz", "x")},
		"more sessions than there is room": {stateWith(full, "ka", "", "kb", ""), openNew()},
		"a reply that is too long":         {stateOf("s1", "0 0 ", "ka", letters(40)), getOf(1, 1, "a")},
	} {
		shelf := segsDisk(segmentOf(batchOfPairs(0, c.state)))
		e := commandEntry(1, c.c)
		s := committedTo(serverOn(t, 1, nodeDisk(shelf, logOf(0, 0, e, noneOf(1)), cast{1, 0})), 1)
		if _, _, ok := impl.Act(c.state, 1, c.c); ok {
			t.Errorf("%s: Act takes %v", why, c.c)
		}
		want := comes(s, func(s *impl.Server) { s.Node.Clock, s.Shelf.Stamp = 1, 1 }, add("g0", segmentOf(batchOf(1))))
		wantServe(t, why, s, tickOf(5), want.having(doneOf(1, e, "")))
	}
}

// A last segment of SegRoom bytes has the next batch begin a new one.
func TestServeBeginsSegments(t *testing.T) {
	for _, size := range numbers(400, 484, 485, 492, 493, 499, 500, 501) {
		seg := segmentOfSize(size)
		list := append(entries(noneOf(1)), slices.Repeat(entries(noneOf(1)), 8)...)
		d := nodeDisk(segsDisk(seg), logOf(0, 0, list...), cast{1, 0})
		s := committedTo(serverOn(t, 1, d), 9)
		o := wantPlainServe(t, fmt.Sprint("a segment of ", size), s, tickOf(5))
		begun := 0
		for _, r := range o.raws {
			if r.Kind == impl.RawMove {
				begun++
			}
		}
		if len(o.done) != 6 || (size >= 465) != (begun == 1) {
			t.Errorf("a segment of %d: %s", size, shortServed(o))
		}
	}
}

// Where a shelf takes no batch more, nothing is served that would apply one.
func TestServeOfAShelfThatIsFull(t *testing.T) {
	var texts []string
	for range 7 {
		texts = append(texts, segmentOfSize(500))
	}
	d := segsDisk(append(texts, segmentOfSize(20000))...)
	s := serverOn(t, 1, nodeDisk(d, logOf(0, 0, noneOf(1), noneOf(1)), cast{1, 0}))
	wantServe(t, "nothing to apply", s, tickOf(5), comes(s, func(s *impl.Server) { s.Node.Clock = 1 }))
	full := committedTo(s, 2)
	wantNoServe(t, "a tick", full, tickOf(5))
	wantNoServe(t, "a message", full, comingOf(asks(1, 2, 1, 9, 9, 9, 0)))
	o := wantPlainServe(t, "a merge makes room", full, mergeInput())
	if len(o.raws) != 13 || len(o.done) != 0 || o.server.Shelf.Stamp != 1 {
		t.Errorf("a merge makes room: %s", shortServed(o))
	}
	o = wantPlainServe(t, "behind the merge", o.server, tickOf(5))
	if len(o.done) != 1 {
		t.Errorf("behind the merge: %s", shortServed(o))
	}
}

// filled has other files up to so many.
func filled(d impl.Disk, n int) impl.Disk {
	for at := len(d.Files); at < n; at++ {
		d = withFiles(d, fmt.Sprint("x", at), "")
	}
	return d
}

func TestServeOfDisksThatAreFull(t *testing.T) {
	d, _ := impl.FormatDisk(numbers(1, 2))
	s := serverOn(t, 1, filled(d, 30))
	wantServe(t, "nothing to write", s, tickOf(5), comes(s, func(s *impl.Server) { s.Node.Clock = 1 }))
	wantNoServe(t, "no room for votes", s, comingOf(asks(1, 2, 1, 9, 9, 9, 0)))
	s = serverOn(t, 1, filled(d, 29))
	wantPlainServe(t, "room for votes", s, comingOf(asks(1, 2, 1, 9, 9, 9, 0)))
	votes := withFiles(d, "vote", votesOfSize(t, 200, cast{4, 3}))
	wantNoServe(t, "no room for new votes", serverOn(t, 1, filled(votes, 30)), comingOf(asks(1, 2, 1, 9, 9, 9, 0)))
	wantPlainServe(t, "room for new votes", serverOn(t, 1, filled(votes, 29)), comingOf(asks(1, 2, 1, 9, 9, 9, 0)))
	file, _ := fileOfSize(20000)
	log := withFiles(d, "vote", plainVote(cast{1, 0}), "log", file)
	more := comingOf(asks(3, 2, 1, 1, 1, 1, 0, noneOf(1)))
	wantNoServe(t, "no room for a new log", serverOn(t, 1, filled(log, 30)), more)
	wantPlainServe(t, "room for a new log", serverOn(t, 1, filled(log, 29)), more)
	shelf := nodeDisk(segsDisk(segmentOfSize(500)), logOf(0, 0, noneOf(1), noneOf(1)), cast{1, 0})
	for n, ok := range map[int]bool{30: false, 29: false, 28: true} {
		s := committedTo(serverOn(t, 1, filled(shelf, n)), 2)
		if o := wantPlainServe(t, "a new segment", s, tickOf(5)); o.ok != ok {
			t.Errorf("a new segment on a disk of %d files: %v", n, o.ok)
		}
		if o := wantPlainServe(t, "a merge", s, mergeInput()); o.ok != ok {
			t.Errorf("a merge on a disk of %d files: %v", n, o.ok)
		}
		m := shipping(s, 9, 1, 0, segmentOf(batchOf(9)), true)
		m.Conf = numbers(1)
		if o := wantPlainServe(t, "an install", s, comingOf(m)); o.ok != ok {
			// It is the batch of what is committed that is refused here.
			t.Errorf("an install on a disk of %d files: %v", n, o.ok)
		}
		o := wantPlainServe(t, "an install, and nothing to apply", committedTo(s, 1), comingOf(m))
		if !o.ok || len(o.told) != 1 || o.told[0].Ok != ok || (len(o.raws) > 0) != ok {
			t.Errorf("an install on a disk of %d files: %s", n, shortServed(o))
		}
	}
}

func TestServeMerge(t *testing.T) {
	s := bootServer(1, 5)
	segment := segmentOf(batchOf(4, set("ka", "one"), set("kb", "two")))
	man := manifestOf(numbers(9), 10, 4, 2, numbers(1, 2))
	log := logOf(4, 2, bootLog().Entries[2:]...)
	raws := []impl.Raw{put("g9", segment), put("m+", plainManifestText(man)), move("m+", "m"), drop("g3"), drop("g7"), put("log+", plainLogFile(log)), move("log+", "log")}
	merged := func(s *impl.Server) {
		s.Shelf.Man, s.Shelf.Dir = man, spots(spot("ka", 9, 12, 3), spot("kb", 9, 20, 3))
		s.Node.Log = log
	}
	o := wantServe(t, "one that follows", s, mergeInput(), comes(s, merged, raws...))
	again := comes(o.server, func(*impl.Server) {})
	wantServe(t, "once more: its Stamp is its Base", o.server, mergeInput(), again)
	behind := committedTo(s, 6)
	o = wantServe(t, "what is committed waits", behind, mergeInput(), comes(behind, merged, raws...))
	if o = wantPlainServe(t, "and is applied then", o.server, mergeInput()); len(o.done) != 2 || len(o.raws) != 2 {
		t.Errorf("merged twice: %s", shortServed(o))
	}
	stand := serverWith(s, func(s *impl.Server) {
		s.Node.Role, s.Node.Votes, s.Stage, s.StageAt, s.StageTerm = 1, numbers(1), "x", 9, 9
	})
	wantServe(t, "one that stands, with a Stage", stand, mergeInput(), comes(stand, merged, raws...))
	lead := leadServer(t)
	wantServe(t, "one that leads", lead, mergeInput(), comes(lead, merged, raws...))
}

// A conf up to the Stamp is the manifest's, one behind it is not.
func TestServeMergeTakesTheConfThatHeld(t *testing.T) {
	list := entries(noneOf(1), confOf(1, "\x01\x02\x03"), noneOf(2), confOf(3, "\x02\x03"), noneOf(3))
	for stamp, conf := range map[int][]int{1: {1, 2}, 2: {1, 2, 3}, 3: {1, 2, 3}, 4: {2, 3}, 5: {2, 3}} {
		shelf := shelfDisk(manifestOf(numbers(0), 1, 0, 0, numbers(1, 2)), segmentOf(batchOf(stamp, set("ka", "x"))))
		s := serverOn(t, 2, nodeDisk(shelf, logOf(0, 0, list...), cast{3, 0}))
		o := wantPlainServe(t, fmt.Sprint("the Stamp ", stamp), s, mergeInput())
		man := manifestOf(numbers(1), 2, stamp, list[stamp-1].Term, conf)
		if !o.ok || !sameManifest(o.server.Shelf.Man, man) || !slices.Equal(o.server.Node.Conf, conf) || !sameLog(o.server.Node.Log, logOf(stamp, list[stamp-1].Term, list[stamp:]...)) {
			t.Errorf("the Stamp %d: %s", stamp, shortServed(o))
		}
	}
}

func TestServeMergeThatIsRefused(t *testing.T) {
	for next, ok := range map[int]bool{998: true, 999: true, 1000: false} {
		shelf := shelfDisk(manifestOf(numbers(5), next, 0, 0, numbers(1, 2)), segmentOf(batchOf(1)))
		s := serverOn(t, 1, nodeDisk(shelf, logOf(0, 0, noneOf(1), noneOf(1)), cast{1, 0}))
		if o := wantPlainServe(t, fmt.Sprint("Next ", next), s, mergeInput()); o.ok != ok {
			t.Errorf("Next %d: %v", next, o.ok)
		}
		if o := wantPlainServe(t, fmt.Sprint("Next ", next), s, tickOf(5)); !o.ok {
			t.Errorf("Next %d: no tick", next)
		}
	}
}

// shipping is an AskInstall from 2 to the server, of its Term.
func shipping(s impl.Server, index, term, commit int, data string, last bool) impl.Message {
	m := ships(2, s.Node.Id, s.Node.Term, index, term, commit, 1, 2, 4)
	m.Data, m.Last = data, last
	return m
}

// staging is the TellInstall to that.
func staging(s impl.Server, index int, ok bool, commit int) impl.Message {
	m := tells(6, s.Node.Id, 2, s.Node.Term, ok, index)
	m.Commit = commit
	return m
}

func ledByTwo(s *impl.Server) { s.Node.Lead = 2 }

func TestServeStagesWhatComes(t *testing.T) {
	s := bootServer(1, 5)
	stageOf := func(s impl.Server, at, term int, text string) impl.Server {
		return serverWith(s, func(s *impl.Server) { s.Stage, s.StageAt, s.StageTerm = text, at, term })
	}
	then := func(at, term int, text string) func(s *impl.Server) {
		return func(s *impl.Server) { s.Node.Lead, s.Stage, s.StageAt, s.StageTerm = 2, text, at, term }
	}
	wantServe(t, "the first piece", s, comingOf(shipping(s, 9, 4, 0, "abc", false)), comes(s, then(9, 4, "abc")).telling(staging(s, 9, false, 3)))
	wantServe(t, "a first piece of nothing", s, comingOf(shipping(s, 9, 4, 0, "", false)), comes(s, then(9, 4, "")).telling(staging(s, 9, false, 0)))
	wantServe(t, "not the first piece", s, comingOf(shipping(s, 9, 4, 1, "abc", false)), comes(s, then(9, 4, "")).telling(staging(s, 9, false, 0)))
	wantServe(t, "not the first piece, but the last", s, comingOf(shipping(s, 9, 4, 60, "abc", true)), comes(s, then(9, 4, "")).telling(staging(s, 9, false, 0)))
	half := stageOf(s, 9, 4, "abc")
	wantServe(t, "the next piece", half, comingOf(shipping(s, 9, 4, 3, "de", false)), comes(half, then(9, 4, "abcde")).telling(staging(s, 9, false, 5)))
	wantServe(t, "a next piece of nothing", half, comingOf(shipping(s, 9, 4, 3, "", false)), comes(half, then(9, 4, "abc")).telling(staging(s, 9, false, 3)))
	for _, commit := range numbers(0, 2, 4, 60, 100000) {
		for _, last := range []bool{false, true} {
			wantServe(t, fmt.Sprint("a piece of ", commit), half, comingOf(shipping(s, 9, 4, commit, "de", last)), comes(half, then(9, 4, "abc")).telling(staging(s, 9, false, 3)))
		}
	}
	for why, c := range map[string][2]int{"another Index": {8, 4}, "an Index above": {10, 4}, "another Term": {9, 3}, "a Term above": {9, 5}, "neither": {7, 0}} {
		wantServe(t, why, half, comingOf(shipping(s, c[0], c[1], 0, "de", false)), comes(half, then(c[0], c[1], "de")).telling(staging(s, c[0], false, 2)))
		wantServe(t, why+", not from 0 on", half, comingOf(shipping(s, c[0], c[1], 3, "de", false)), comes(half, then(c[0], c[1], "")).telling(staging(s, c[0], false, 0)))
	}
	empty := stageOf(s, 9, 4, "")
	wantServe(t, "an empty Stage of the same", empty, comingOf(shipping(s, 9, 4, 0, "x", false)), comes(empty, then(9, 4, "x")).telling(staging(s, 9, false, 1)))
	wantServe(t, "up to the greatest Index", s, comingOf(shipping(s, 100000, 4, 0, "x", false)), comes(s, then(100000, 4, "x")).telling(staging(s, 100000, false, 1)))
}

func TestServeStagesOfTerms(t *testing.T) {
	s := bootServerWith(func(s *impl.Server) { s.Stage, s.StageAt, s.StageTerm, s.Node.Lead = "abc", 9, 2, 3 })
	at := func(term int) impl.Message {
		m := shipping(s, 9, 2, 3, "de", false)
		m.Term = term
		return m
	}
	below := comes(s, func(*impl.Server) {})
	for _, term := range numbers(0, 1, 3) {
		wantServe(t, "a Term below", s, comingOf(at(term)), below.telling(staging(s, 9, false, 0)))
		low := at(term)
		low.Index, low.Last = 4, true
		wantServe(t, "a Term below, up to Commit", s, comingOf(low), below.telling(staging(s, 4, false, 0)))
	}
	wantServe(t, "the Term", s, comingOf(at(4)), comes(s, func(s *impl.Server) { s.Node.Lead, s.Stage = 2, "abcde" }).telling(staging(s, 9, false, 5)))
	above := comes(s, func(s *impl.Server) { s.Node.Term, s.Node.Vote, s.Node.Lead, s.Stage = 7, 0, 2, "abcde" }, add("vote", plainVote(cast{7, 0})))
	wantServe(t, "a Term above", s, comingOf(at(7)), above.telling(staging(above.server, 9, false, 5)))
	lead := leadServer(t)
	m := shipping(lead, 9, 2, 0, "x", false)
	m.Term = 3
	wantServe(t, "a leader of a Term above", lead, comingOf(m), comes(lead, func(*impl.Server) {}).telling(staging(lead, 9, false, 0)))
	m.Term = 5
	o := wantPlainServe(t, "a leader of a Term below", lead, comingOf(m))
	if o.server.Node.Role != 0 || o.server.Node.Term != 5 || o.server.Stage != "x" || len(o.told) != 1 || o.told[0].Term != 5 {
		t.Errorf("a leader of a Term below: %s", shortServed(o))
	}
}

// Up to Commit all is there already.
func TestServeStagesNothingUpToCommit(t *testing.T) {
	s := bootServerWith(func(s *impl.Server) { s.Stage, s.StageAt, s.StageTerm, s.Node.Commit = "abc", 9, 2, 4 })
	for index := range 5 {
		for _, last := range []bool{false, true} {
			m := shipping(s, index, 2, 0, segmentOf(batchOf(index)), last)
			wantServe(t, fmt.Sprint("the Index ", index), s, comingOf(m), comes(s, ledByTwo).telling(staging(s, index, true, 0)))
		}
	}
	ahead := committedTo(s, 6)
	o := wantPlainServe(t, "ahead of Commit, behind the Stamp", ahead, comingOf(shipping(s, 6, 3, 0, segmentOf(batchOf(6)), true)))
	if len(o.done) != 2 || !o.told[0].Ok || o.server.Stage != "abc" {
		t.Errorf("ahead of Commit, behind the Stamp: %s", shortServed(o))
	}
	o = wantPlainServe(t, "behind Commit", s, comingOf(shipping(s, 5, 2, 0, segmentOf(batchOf(5)), true)))
	if !o.told[0].Ok || o.server.Shelf.Stamp != 5 {
		t.Errorf("behind Commit: %s", shortServed(o))
	}
}

func TestServeInstalls(t *testing.T) {
	s := bootServer(1, 5)
	text := segmentOf(batchOf(9, set("kc", "three")))
	man := manifestOf(numbers(9), 10, 9, 4, numbers(1, 2, 4))
	log := logOf(9, 4)
	raws := []impl.Raw{put("g9", text), put("m+", plainManifestText(man)), move("m+", "m"), drop("g3"), drop("g7"), put("log+", plainLogFile(log)), move("log+", "log")}
	installed := func(s *impl.Server) {
		s.Node.Lead, s.Node.Log, s.Node.Conf, s.Node.Commit = 2, log, numbers(1, 2, 4), 9
		s.Shelf = impl.Shelf{Man: man, Dir: spots(spot("kc", 9, 12, 5)), Stamp: 9}
		s.Stage, s.StageAt, s.StageTerm = "", 9, 4
	}
	wantServe(t, "at once", s, comingOf(shipping(s, 9, 4, 0, text, true)), comes(s, installed, raws...).telling(staging(s, 9, true, 0)))
	for at := range len(text) + 1 {
		half := serverWith(s, func(s *impl.Server) { s.Stage, s.StageAt, s.StageTerm = text[:at], 9, 4 })
		wantServe(t, fmt.Sprint("from ", at, " on"), half, comingOf(shipping(s, 9, 4, at, text[at:], true)), comes(half, installed, raws...).telling(staging(s, 9, true, 0)))
	}
	stale := serverWith(s, func(s *impl.Server) { s.Stage, s.StageAt, s.StageTerm = "words", 9, 3 })
	wantServe(t, "in the place of another", stale, comingOf(shipping(s, 9, 4, 0, text, true)), comes(stale, installed, raws...).telling(staging(s, 9, true, 0)))
	above := shipping(s, 9, 4, 0, text, true)
	above.Term = 6
	want := comes(s, func(s *impl.Server) {
		installed(s)
		s.Node.Term, s.Node.Vote = 6, 0
	}, append([]impl.Raw{add("vote", plainVote(cast{6, 0}))}, raws...)...)
	wantServe(t, "of a Term above", s, comingOf(above), want.telling(staging(want.server, 9, true, 0)))
}

// What stands behind the Index stays, where the log has it with this Term.
func TestServeInstallsIntoALog(t *testing.T) {
	base := bootServerWith(func(s *impl.Server) { s.Node.Clock = 3 })
	for _, c := range []struct {
		index, term int
		log         impl.Log
	}{
		{5, 2, logOf(5, 2, noneOf(3))},
		{6, 3, logOf(6, 3)},
		{5, 1, logOf(5, 1)},
		{5, 3, logOf(5, 3)},
		{6, 2, logOf(6, 2)},
		{7, 3, logOf(7, 3)},
		{5, 4, logOf(5, 4)},
		{100000, 0, logOf(100000, 0)},
	} {
		text := segmentOf(batchOf(c.index, set("kz", "")))
		o := wantPlainServe(t, fmt.Sprint("the Index ", c.index, " of the Term ", c.term), base, comingOf(shipping(base, c.index, c.term, 0, text, true)))
		n := o.server.Node
		if !o.ok || !o.told[0].Ok || !sameLog(n.Log, c.log) || n.Commit != c.index || o.server.Shelf.Stamp != c.index || n.Clock != 0 || len(o.done) != 0 {
			t.Errorf("the Index %d of the Term %d: %s", c.index, c.term, shortServed(o))
		}
	}
}

func TestServeInstallsWhatIsRefused(t *testing.T) {
	s := bootServer(1, 5)
	then := func(s *impl.Server) { s.Node.Lead, s.Stage, s.StageAt, s.StageTerm = 2, "", 9, 4 }
	texts := map[string]string{
		"nothing":          "",
		"another Stamp":    segmentOf(batchOf(8)),
		"a Stamp above":    segmentOf(batchOf(10)),
		"two batches":      segmentOf(batchOf(9), batchOf(9)),
		"a byte more":      segmentOf(batchOf(9)) + "x",
		"a byte fewer":     segmentOf(batchOf(9))[:6],
		"a byte turned":    turned(segmentOf(batchOf(9)), 5, 1),
		"words":            "words",
		"a record of none": plainFrame("no batch"),
	}
	for why, text := range notOneBatch() {
		if _, _, ok := plainAsk(s.Disk, s.Shelf, installOf(text, 9, 4, 1)); !ok {
			texts["no one batch: "+why] = text
		}
	}
	for why, text := range texts {
		if len(text) > 60 {
			half := serverWith(s, func(s *impl.Server) { s.Stage, s.StageAt, s.StageTerm = text[:min(20000, len(text)-60)], 9, 4 })
			m := shipping(s, 9, 4, len(half.Stage), text[len(text)-60:], true)
			wantServe(t, why, half, comingOf(m), comes(half, then).telling(staging(s, 9, false, 0)))
			continue
		}
		wantServe(t, why, s, comingOf(shipping(s, 9, 4, 0, text, true)), comes(s, then).telling(staging(s, 9, false, 0)))
	}
	shelf := shelfDisk(manifestOf(numbers(5), 1000, 0, 0, numbers(1, 2)), segmentOf(batchOf(1)))
	last := serverOn(t, 1, nodeDisk(shelf, logOf(0, 0, noneOf(1), noneOf(1)), cast{4, 0}))
	wantServe(t, "no segment more", last, comingOf(shipping(last, 9, 4, 0, segmentOf(batchOf(9)), true)), comes(last, then).telling(staging(last, 9, false, 0)))
}

// A Stage may pass MaxText by what comes behind it: this is told as it is, and
// the server is not right then.
func TestServeStagesUpToMaxText(t *testing.T) {
	for _, size := range numbers(19939, 19940, 19941, 20000) {
		s := bootServerWith(func(s *impl.Server) { s.Stage, s.StageAt, s.StageTerm = letters(size), 9, 4 })
		m := shipping(s, 9, 4, size, letters(60), false)
		o := serve(s, comingOf(m))
		if !sameServed(o, plainServe(s, comingOf(m))) || o.told[0].Commit != size+60 || impl.ServerOk(o.server) != (size <= 19940) {
			t.Errorf("a Stage of %d: %s", size, shortServed(o))
		}
		m.Last = true
		o = wantPlainServe(t, fmt.Sprint("the last of ", size), s, comingOf(m))
		if o.told[0].Ok || o.told[0].Commit != 0 || o.server.Stage != "" {
			t.Errorf("the last of %d: %s", size, shortServed(o))
		}
	}
}

// A LogTerm may be above the Term of an AskInstall: what it ships is installed
// as any other, and the node is not right then.
func TestServeInstallsOfALogTermAboveTheTerm(t *testing.T) {
	s := bootServer(1, 5)
	for term, right := range map[int]bool{3: true, 4: true, 5: false, 100000: false} {
		in := comingOf(shipping(s, 9, term, 0, segmentOf(batchOf(9)), true))
		o := serve(s, in)
		if !sameServed(o, plainServe(s, in)) || !o.told[0].Ok || o.server.Node.Log.StartTerm != term || impl.ServerOk(o.server) != right {
			t.Errorf("the LogTerm %d: %s", term, shortServed(o))
		}
	}
}

// snapOfSize is a frame of a batch with this Stamp, of so many bytes.
func snapOfSize(t *testing.T, stamp, size int) string {
	t.Helper()
	for keys := 1; keys <= 60; keys++ {
		m := mapOfMany("k", keys, "")
		for rest := size - len(segmentOf(batchOfPairs(stamp, m))); rest >= 0 && rest <= 41*keys; rest-- {
			left := rest
			for at := range m {
				more := min(40, left)
				m[at].Value = letters(more)
				left -= more
			}
			if text := segmentOf(batchOfPairs(stamp, m)); left == 0 && len(text) == size {
				return text
			}
		}
	}
	t.Fatalf("no batch has %d bytes", size)
	return ""
}

// shipServer leads, and has the peer 2 behind its Start, with this Sent; the
// peer 3 is not.
func shipServer(t *testing.T, text string, sent int) impl.Server {
	t.Helper()
	shelf := shelfDisk(manifestOf(numbers(3, 7), 9, 4, 2, numbers(1, 2, 3)), text, segmentOf(batchOf(5, set("kz", "later"))))
	s := serverOn(t, 1, nodeDisk(shelf, logOf(4, 2, noneOf(2), noneOf(3)), cast{3, 1}))
	return serverWith(s, func(s *impl.Server) {
		s.Node.Role, s.Node.Lead = 2, 1
		s.Node.Peers = []impl.Peer{{Id: 2, Next: 4, Match: 1, Sent: sent}, {Id: 3, Next: 6, Match: 5}}
	})
}

func TestServeShipsEachPiece(t *testing.T) {
	for _, size := range numbers(14, 59, 60, 61, 119, 120, 121, 180, 200, 1000, 2700) {
		text := snapOfSize(t, 4, size)
		for _, sent := range numbers(0, 1, 59, 60, 61, 119, 120, 121, size-61, size-60, size-59, size-2, size-1, size, size+1, 20000) {
			if sent < 0 {
				continue
			}
			s := shipServer(t, text, sent)
			from := sent
			if sent >= size {
				from = 0
			}
			end := min(from+60, size)
			ship := ships(1, 2, 3, 4, 2, from, 1, 2, 3)
			ship.Data, ship.Last = text[from:end], end == size
			want := comes(s, func(*impl.Server) {}).telling(ship, asks(3, 1, 3, 3, 5, 2, 5, noneOf(3)))
			why := fmt.Sprintf("%d of %d", sent, size)
			wantServe(t, why, s, tickOf(5), want)
		}
	}
}

// A TellInstall says from where on the next piece is.
func TestServeShipsPieceByPiece(t *testing.T) {
	text := snapOfSize(t, 4, 150)
	s := shipServer(t, text, 0)
	got, commit := "", 0
	for range 3 {
		m := tells(6, 2, 1, 3, false, 4)
		m.Commit = commit
		o := wantPlainServe(t, fmt.Sprint("from ", commit, " on"), s, comingOf(m))
		if len(o.told) != 1 || o.told[0].Commit != commit || o.told[0].Last != (commit == 120) {
			t.Fatalf("from %d on: %s", commit, shortServed(o))
		}
		got += o.told[0].Data
		s, commit = o.server, commit+60
	}
	if got != text {
		t.Errorf("shipped is %q; want %q", got, text)
	}
	m := tells(6, 2, 1, 3, false, 3)
	m.Commit = 60
	if o := wantPlainServe(t, "of another Index", s, comingOf(m)); o.told[0].Commit != 0 || o.told[0].Data != text[:60] {
		t.Errorf("of another Index: %s", shortServed(o))
	}
	o := wantPlainServe(t, "it is there", s, comingOf(tells(6, 2, 1, 3, true, 4)))
	if len(o.told) != 1 || o.told[0].Kind != 3 || o.told[0].Index != 4 {
		t.Errorf("it is there: %s", shortServed(o))
	}
	o = wantPlainServe(t, "a proposal", s, planOf(1, ""))
	if len(o.told) != 2 || o.told[0].Kind != 5 || o.told[0].Data == "" || o.told[1].Kind != 3 {
		t.Errorf("a proposal: %s", shortServed(o))
	}
}

// Where there is no text of a segment to be shipped, an AskInstall is left out.
func TestServeLeavesOutWhatCannotBeShipped(t *testing.T) {
	text := segmentOf(batchOf(4, set("ka", "x")))
	for why, first := range map[string]string{
		"an empty segment":     "",
		"a Stamp below":        segmentOf(batchOf(3, set("ka", "x"))),
		"a Stamp above":        segmentOf(batchOf(5, set("ka", "x"))),
		"a Stamp below, first": segmentOf(batchOf(3)) + text,
	} {
		s := shipServer(t, first, 0)
		want := comes(s, func(*impl.Server) {}).telling(asks(3, 1, 3, 3, 5, 2, 5, noneOf(3)))
		wantServe(t, why, s, tickOf(5), want)
		m := tells(6, 2, 1, 3, false, 4)
		m.Commit = 7
		wantServe(t, why+", the only one", s, comingOf(m), comes(s, func(s *impl.Server) { s.Node.Peers[0].Sent = 7 }))
	}
	s := shipServer(t, text+segmentOf(batchOf(4, set("kb", "y"))), 0)
	o := wantPlainServe(t, "a batch behind is not shipped", s, tickOf(5))
	if len(o.told) != 2 || o.told[0].Data != text || !o.told[0].Last {
		t.Errorf("a batch behind is not shipped: %s", shortServed(o))
	}
}

// What a leader ships is installed by another one, which has its map then.
func TestServeShipsAndInstalls(t *testing.T) {
	lead := shipServer(t, snapOfSize(t, 4, 700), 0)
	d, _ := impl.FormatDisk(numbers(1, 2, 3))
	s := serverOn(t, 2, d)
	told := serve(lead, tickOf(5)).told[:1]
	for round := 0; s.Shelf.Stamp < 4; round++ {
		if round > 20 || len(told) == 0 {
			t.Fatalf("it is not installed: %s", shortServer(s))
		}
		o := wantPlainServe(t, "a piece comes", s, comingOf(told[0]))
		s = o.server
		o = wantPlainServe(t, "it is told", lead, comingOf(o.told[0]))
		lead, told = o.server, o.told
	}
	want, _ := impl.ShelfMap(lead.Disk, impl.Shelf{Dir: slices.DeleteFunc(slices.Clone(lead.Shelf.Dir), func(s impl.Spot) bool { return s.Seg == 7 })})
	m, ok := impl.ShelfMap(s.Disk, s.Shelf)
	if !ok || len(m) < 10 || !slices.Equal(m, want) || s.Node.Log.Start != 4 || s.Node.Log.StartTerm != 2 {
		t.Errorf("installed is %v; want %v", m, want)
	}
	if len(told) != 1 || told[0].Kind != 3 || told[0].Index != 4 || lead.Node.Peers[0].Match != 4 {
		t.Errorf("the leader goes on by %v", told)
	}
}

// There are never more than MaxRaws raw writes: the most of them are these.
func TestServeTheMostRawWrites(t *testing.T) {
	more := slices.Repeat(entries(noneOf(1)), 8)
	frames := entryFrames(2, more...)
	file, _ := fileOfSize(20000 - len(frames))
	d := withFiles(segsDisk(segmentOfSize(500)), "log", file+frames, "vote", votesOfSize(t, 200, cast{1, 0}))
	s := committedTo(serverOn(t, 1, d), 9)
	o := wantPlainServe(t, "votes and a log put anew, and six batches", s, comingOf(asks(3, 2, 1, 2, 9, 1, 9, noneOf(2))))
	if len(o.raws) != 2+2+3+5 || len(o.done) != 6 || o.raws[0].Name != "vote+" || o.raws[2].Name != "log+" || o.raws[4].Name != "g1" {
		t.Errorf("votes and a log put anew, and six batches: %s", shortServed(o))
	}
	list := slices.Repeat(entries(noneOf(1)), 9)
	var texts []string
	for range 8 {
		texts = append(texts, segmentOfSize(500))
	}
	d = withFiles(segsDisk(texts...), "log", plainLogFile(logOf(0, 0, list...)), "vote", votesOfSize(t, 200, cast{1, 0}))
	s = serverOn(t, 1, d)
	m := shipping(s, 9, 1, 0, segmentOf(batchOf(9)), true)
	m.Term = 2
	o = wantPlainServe(t, "votes put anew, and eight segments in the place of one", s, comingOf(m))
	if len(o.raws) != 2+3+8+2 || !o.told[0].Ok {
		t.Errorf("votes put anew, and eight segments in the place of one: %s", shortServed(o))
	}
}
