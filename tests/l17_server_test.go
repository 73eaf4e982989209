package tests

import (
	"fmt"
	"math"
	"slices"
	"testing"

	"loop.example/g00103/impl"
)

// served is what Serve answers.
type served struct {
	server impl.Server
	raws   []impl.Raw
	told   []impl.Message
	done   []impl.Done
	index  int
	ok     bool
}

func serve(s impl.Server, in impl.Input) served {
	now, raws, told, done, index, ok := impl.Serve(s, in)
	return served{now, raws, told, done, index, ok}
}

func tickOf(limit int) impl.Input { return impl.Input{Kind: impl.InTick, Limit: limit} }

func comingOf(m impl.Message) impl.Input { return impl.Input{Kind: impl.InMessage, Message: m} }

func planOf(kind int, data string) impl.Input {
	return impl.Input{Kind: impl.InPropose, Entry: kind, Data: data}
}

func mergeInput() impl.Input { return impl.Input{Kind: impl.InMerge} }

func sameServer(a, b impl.Server) bool {
	return sameNode(a.Node, b.Node) && sameDisk(a.Disk, b.Disk) && sameShelf(a.Shelf, b.Shelf) &&
		a.Stage == b.Stage && a.StageAt == b.StageAt && a.StageTerm == b.StageTerm
}

func sameServed(a, b served) bool {
	return sameServer(a.server, b.server) && slices.Equal(a.raws, b.raws) && slices.EqualFunc(a.told, b.told, sameMessage) &&
		slices.Equal(a.done, b.done) && a.index == b.index && a.ok == b.ok
}

func shortServer(s impl.Server) string {
	return fmt.Sprintf("{%s\n\t%s\n\t%s\n\tstage %.20q of %d at %d term %d}",
		shortNode(s.Node), short(s.Disk), shortShelf(s.Shelf), s.Stage, len(s.Stage), s.StageAt, s.StageTerm)
}

func shortServed(o served) string {
	text := fmt.Sprint(shortServer(o.server), "\n\traws ", shortRaws(o.raws), " index ", o.index, " ", o.ok)
	for _, m := range o.told {
		text += "\n\ttells " + shortMessage(m)
	}
	for _, d := range o.done {
		text += fmt.Sprintf("\n\tdone %d %s %q", d.Index, shortEntry(d.Entry), d.Reply)
	}
	return text
}

func shortInput(in impl.Input) string {
	return fmt.Sprintf("input %d limit %d entry %d data %.20q message %s", in.Kind, in.Limit, in.Entry, in.Data, shortMessage(in.Message))
}

func cloneServer(s impl.Server) impl.Server {
	s.Node = cloneNode(s.Node)
	s.Disk.Files = slices.Clone(s.Disk.Files)
	s.Shelf.Man.Segs, s.Shelf.Man.Conf = slices.Clone(s.Shelf.Man.Segs), slices.Clone(s.Shelf.Man.Conf)
	s.Shelf.Dir = slices.Clone(s.Shelf.Dir)
	return s
}

// serverWith is a copy of the server behind a change.
func serverWith(s impl.Server, change func(s *impl.Server)) impl.Server {
	s = cloneServer(s)
	change(&s)
	return s
}

func textOf(d impl.Disk, name string) (string, bool) {
	for _, f := range d.Files {
		if f.Name == name {
			return f.Text, true
		}
	}
	return "", false
}

// nodeDisk is a shelf's disk with a log, and votes, if there are any.
func nodeDisk(shelf impl.Disk, l impl.Log, votes ...cast) impl.Disk {
	d := withFiles(shelf, "log", plainLogFile(l))
	if len(votes) > 0 {
		d = withFiles(d, "vote", plainVotes(votes...))
	}
	return d
}

// serverOn is the server that comes up on a disk that needs nothing.
func serverOn(t *testing.T, id int, d impl.Disk) impl.Server {
	t.Helper()
	s, list, code := impl.Boot(id, d, 5)
	if code != 0 || len(list) > 0 {
		t.Fatalf("Boot(%d, %s) has %s and the code %d", id, short(d), shortRaws(list), code)
	}
	return s
}

// plainBoot is the document's rule, code by code.
func plainBoot(id int, d impl.Disk, limit int) (impl.Server, []impl.Raw, int) {
	shelf, list, code := plainOpen(d)
	if code != 0 {
		return impl.Server{}, nil, 1
	}
	file, there := textOf(d, "log")
	told, end, read := plainReadLog(file)
	if !there || !read {
		return impl.Server{}, nil, 2
	}
	votes, _ := textOf(d, "vote")
	term, vote, whole := plainReadVotes(votes)
	log := plainLogBehind(told, shelf.Man.Base, shelf.Man.BaseTerm)
	n := impl.Node{Id: id, Term: term, Vote: vote, Conf: slices.Clone(shelf.Man.Conf), Log: log, Commit: shelf.Stamp, Limit: limit}
	if !plainNodeOk(n) {
		return impl.Server{}, nil, 3
	}
	if !sameLog(log, told) {
		list = append(list, put("log+", plainLogFile(log)), move("log+", "log"))
	} else {
		if end < len(file) {
			list = append(list, put("log", file[:end]))
		}
		if _, left := textOf(d, "log+"); left {
			list = append(list, drop("log+"))
		}
	}
	if whole < len(votes) {
		list = append(list, put("vote", votes[:whole]))
	}
	if _, left := textOf(d, "vote+"); left {
		list = append(list, drop("vote+"))
	}
	behind, _ := oneByOne(d, list)
	return impl.Server{Node: n, Disk: behind, Shelf: shelf}, list, 0
}

func plainServerOk(s impl.Server) bool {
	up, list, code := plainBoot(s.Node.Id, s.Disk, 1)
	if code != 0 || len(list) > 0 || !sameShelf(up.Shelf, s.Shelf) {
		return false
	}
	a, b := up.Node, s.Node
	if a.Id != b.Id || !slices.Equal(a.Conf, b.Conf) || !sameLog(a.Log, b.Log) || a.Term != b.Term || a.Vote != b.Vote {
		return false
	}
	return plainNodeOk(b) && b.Commit >= s.Shelf.Stamp &&
		len(s.Stage) <= 20000 && among(s.StageAt, 0, 100000) && among(s.StageTerm, 0, 100000)
}

// plainWork is what Serve has made so far, by the plain rules.
type plainWork struct {
	served
}

func (w *plainWork) write(list ...impl.Raw) bool {
	for _, r := range list {
		d, ok := plainDo(w.server.Disk, r)
		if !ok {
			return false
		}
		w.server.Disk = d
		w.raws = append(w.raws, r)
	}
	return true
}

// turn makes the node another one, and writes what comes of its log.
func (w *plainWork) turn(n impl.Node) bool {
	file, _ := textOf(w.server.Disk, "log")
	list, ok := plainLogSteps(file, w.server.Node.Log, n.Log)
	w.server.Node = n
	return ok && w.write(list...)
}

func (w *plainWork) tellInstall(m impl.Message, ok bool, commit int) {
	told := tells(6, m.To, m.From, w.server.Node.Term, ok, m.Index)
	told.Commit = commit
	w.told = append(w.told, told)
}

// staged is *staged*, and what is said of a Term below the node's.
func (w *plainWork) staged(m impl.Message) bool {
	s := &w.server
	if m.Term < s.Node.Term {
		w.tellInstall(m, false, 0)
		return true
	}
	if m.Index <= s.Node.Commit {
		w.tellInstall(m, true, 0)
		return true
	}
	if s.StageAt != m.Index || s.StageTerm != m.LogTerm {
		s.Stage, s.StageAt, s.StageTerm = "", m.Index, m.LogTerm
	}
	if m.Commit == len(s.Stage) {
		s.Stage += m.Data
		if m.Last {
			return w.install(m)
		}
	}
	w.tellInstall(m, false, len(s.Stage))
	return true
}

func (w *plainWork) install(m impl.Message) bool {
	s := &w.server
	shelf, list, ok := plainAsk(s.Disk, s.Shelf, installOf(s.Stage, m.Index, m.LogTerm, m.Conf...))
	s.Stage = ""
	if !ok {
		w.tellInstall(m, false, 0)
		return true
	}
	s.Shelf = shelf
	n := cloneNode(s.Node)
	n.Log = plainLogBehind(n.Log, m.Index, m.LogTerm)
	n.Conf, n.Commit = m.Conf, m.Index
	w.tellInstall(m, true, 0)
	return w.write(list...) && w.turn(n)
}

func (w *plainWork) merge() bool {
	s := &w.server
	base := s.Shelf.Stamp
	shelf, list, ok := plainAsk(s.Disk, s.Shelf, mergeOf(base, plainLogTerm(s.Node.Log, base), plainConfUpTo(s.Node, base)...))
	o := plainSettle(s.Node, base)
	s.Shelf = shelf
	return ok && o.ok && w.write(list...) && w.turn(o.node)
}

// plainState is the state behind an entry, and the reply.
func plainState(state []impl.Pair, index int, e impl.Entry) ([]impl.Pair, string) {
	if e.Kind == 3 {
		if c, ok := plainReadCommand(e.Data); ok {
			if then, reply, ok := plainAct(state, index, c); ok {
				return then, reply
			}
		}
	}
	return state, ""
}

func (w *plainWork) apply() bool {
	s := &w.server
	first := s.Shelf.Stamp + 1
	for index := first; index <= s.Node.Commit && index < first+6; index++ {
		e := s.Node.Log.Entries[index-s.Node.Log.Start-1]
		state, _ := plainShelfMap(s.Disk, s.Shelf)
		then, reply := plainState(state, index, e)
		changes, ok := plainMapBetween(state, then)
		shelf, list, added := plainAdd(s.Disk, s.Shelf, batchOf(index, changes...))
		if !ok || !added || !w.write(list...) {
			return false
		}
		s.Shelf = shelf
		w.done = append(w.done, impl.Done{Index: index, Entry: e, Reply: reply})
	}
	return true
}

func (w *plainWork) ship() {
	text, whole := plainSnap(w.server.Disk, w.server.Shelf)
	var told []impl.Message
	for _, m := range w.told {
		if m.Kind == 5 && !whole {
			continue
		}
		if m.Kind == 5 {
			if m.Commit > len(text)-1 {
				m.Commit = 0
			}
			m.Data = text[m.Commit:]
			m.Last = len(m.Data) < 61
			m.Data = m.Data[:min(60, len(m.Data))]
		}
		told = append(told, m)
	}
	w.told = told
}

// plainServe is the document's rule, one thing behind the other.
func plainServe(s impl.Server, in impl.Input) served {
	if !plainServerOk(s) {
		return served{}
	}
	var o outcome
	switch in.Kind {
	case 1:
		o = plainTick(s.Node, in.Limit)
	case 2:
		o = plainReceive(s.Node, in.Message)
	case 3:
		o = plainPropose(s.Node, in.Entry, in.Data)
	case 4:
		o = outcome{node: s.Node, ok: true}
	}
	if !o.ok {
		return served{}
	}
	w := &plainWork{served{server: cloneServer(s), told: o.told, index: o.index, ok: true}}
	if o.node.Term != s.Node.Term || o.node.Vote != s.Node.Vote {
		text := plainVote(cast{o.node.Term, o.node.Vote})
		file, _ := textOf(s.Disk, "vote")
		list := []impl.Raw{add("vote", text)}
		if len(file) > 199 {
			list = []impl.Raw{put("vote+", text), move("vote+", "vote")}
		}
		w.ok = w.write(list...)
	}
	w.ok = w.ok && w.turn(o.node)
	if in.Kind == 2 && in.Message.Kind == 5 {
		w.ok = w.ok && w.staged(in.Message)
	}
	if in.Kind == 4 && w.server.Shelf.Stamp > w.server.Shelf.Man.Base {
		w.ok = w.ok && w.merge()
	} else {
		w.ok = w.ok && w.apply()
	}
	if !w.ok || len(w.raws) > 60 {
		return served{}
	}
	w.ship()
	return w.served
}

// wantBooted holds Boot, and the plain rule, against what comes; and the disk
// that it leaves needs nothing.
func wantBooted(t *testing.T, why string, id int, d impl.Disk, limit int, want impl.Server, raws ...impl.Raw) impl.Server {
	t.Helper()
	plain, plainRaws, plainCode := plainBoot(id, d, limit)
	if plainCode != 0 || !sameServer(plain, want) || !slices.Equal(plainRaws, raws) {
		t.Errorf("%s: the plain rule tells of %s\n%s\n%s, %d; want\n%s\n%s", why, short(d), shortServer(plain), shortRaws(plainRaws), plainCode, shortServer(want), shortRaws(raws))
	}
	got, list, code := impl.Boot(id, d, limit)
	if code != 0 || !sameServer(got, want) || !slices.Equal(list, raws) {
		t.Errorf("%s: Boot(%d, %s, %d) =\n%s\n%s, %d; want\n%s\n%s", why, id, short(d), limit, shortServer(got), shortRaws(list), code, shortServer(want), shortRaws(raws))
	}
	wantUp(t, why, got)
	return got
}

// wantUp asks that a server that came up is right, and that its disk, booted
// again, needs nothing and tells the same server.
func wantUp(t *testing.T, why string, s impl.Server) {
	t.Helper()
	again, list, code := impl.Boot(s.Node.Id, s.Disk, s.Node.Limit)
	if code != 0 || len(list) > 0 || !sameServer(again, s) {
		t.Errorf("%s: booted again it is\n%s\n%s, %d; was\n%s", why, shortServer(again), shortRaws(list), code, shortServer(s))
	}
	if !impl.ServerOk(s) {
		t.Errorf("%s: what came up is not right: %s", why, shortServer(s))
	}
}

func wantBoot(t *testing.T, why string, id int, d impl.Disk, limit int) int {
	t.Helper()
	want, raws, code := plainBoot(id, d, limit)
	got, list, was := impl.Boot(id, d, limit)
	if was != code || !sameServer(got, want) || !slices.Equal(list, raws) {
		t.Errorf("%s: Boot(%d, %s, %d) =\n%s\n%s, %d; want\n%s\n%s, %d", why, id, short(d), limit, shortServer(got), shortRaws(list), was, shortServer(want), shortRaws(raws), code)
	}
	return was
}

func wantBootCode(t *testing.T, why string, id int, d impl.Disk, limit int, code int) {
	t.Helper()
	if was := wantBoot(t, why, id, d, limit); was != code {
		t.Errorf("%s: Boot(%d, %s, %d) has the code %d; want %d", why, id, short(d), limit, was, code)
	}
}

func wantServer(t *testing.T, why string, s impl.Server, ok bool) {
	t.Helper()
	if plainServerOk(s) != ok {
		t.Errorf("%s: the plain rule tells %v of %s", why, !ok, shortServer(s))
	}
	if impl.ServerOk(s) != ok {
		t.Errorf("%s: ServerOk tells %v of %s", why, !ok, shortServer(s))
	}
	if ok {
		return
	}
	for _, in := range []impl.Input{tickOf(1), mergeInput(), planOf(1, ""), comingOf(impl.Message{Kind: 1, From: 1 + s.Node.Id%4, To: s.Node.Id, Term: 5})} {
		if o := serve(s, in); !sameServed(o, served{}) {
			t.Errorf("%s: Serve of one that is not right: %s", why, shortServed(o))
		}
	}
}

func TestServerConstants(t *testing.T) {
	if impl.MaxApply != 6 || impl.MaxVotes != 200 || impl.NameVoteNew != "vote+" {
		t.Error("a constant of servers is not the document's")
	}
	if impl.InTick != 1 || impl.InMessage != 2 || impl.InPropose != 3 || impl.InMerge != 4 {
		t.Error("a Kind of inputs is not the document's")
	}
}

func TestFormatDisk(t *testing.T) {
	for _, conf := range rightConfs() {
		man := manifestOf(numbers(0), 1, 0, 0, conf)
		want := diskOf("g0", "", "log", plainFrame("S\x00\x00"), "m", plainManifestText(man))
		d, ok := impl.FormatDisk(conf)
		if !ok || !sameDisk(d, want) {
			t.Errorf("FormatDisk(%v) = %s, %v; want %s", conf, short(d), ok, short(want))
		}
		for id := 1; id <= 4; id++ {
			n := impl.Node{Id: id, Conf: conf, Limit: 20}
			wantBooted(t, "formatted", id, d, 20, impl.Server{Node: n, Disk: want, Shelf: impl.Shelf{Man: man}})
		}
	}
	for _, conf := range append(listsOf(5, 0, 1, 2, 4, 5), nil, numbers(-1), numbers(math.MinInt), numbers(math.MaxInt), numbers(1, 2, 3, 4, 5), numbers(0, 1, 2, 3), upTo(1, 400)) {
		if d, ok := impl.FormatDisk(conf); ok != plainConfOk(conf) || !ok && len(d.Files) > 0 {
			t.Errorf("FormatDisk(%v) = %s, %v", conf, short(d), ok)
		}
	}
}

// bootShelf is a shelf whose Base is the index 2, with a segment more behind.
func bootShelf() impl.Disk {
	man := manifestOf(numbers(3, 7), 9, 2, 1, numbers(1, 2))
	return shelfDisk(man, segmentOf(batchOf(2, set("ka", "one"))), segmentOf(batchOf(4, set("kb", "two"))))
}

// bootLog begins behind bootShelf's Base, and goes on behind its Stamp.
func bootLog() impl.Log {
	return logOf(2, 1, noneOf(1), commandOf(2, "x"), confOf(2, "\x01\x02\x03"), noneOf(3))
}

func bootDisk() impl.Disk { return nodeDisk(bootShelf(), bootLog(), cast{2, 1}, cast{4, 3}) }

// bootServer is what comes up on bootDisk, with this Id and Limit.
func bootServer(id, limit int) impl.Server {
	man := manifestOf(numbers(3, 7), 9, 2, 1, numbers(1, 2))
	dir := spots(spot("ka", 3, 12, 3), spot("kb", 7, 12, 3))
	return impl.Server{
		Node:  impl.Node{Id: id, Term: 4, Vote: 3, Conf: numbers(1, 2), Log: bootLog(), Commit: 4, Limit: limit},
		Disk:  bootDisk(),
		Shelf: impl.Shelf{Man: man, Dir: dir, Stamp: 4},
	}
}

func bootServerWith(change func(s *impl.Server)) impl.Server {
	return serverWith(bootServer(1, 5), change)
}

func TestBootOfADiskThatNeedsNothing(t *testing.T) {
	for id := 1; id <= 4; id++ {
		for limit := 1; limit <= 20; limit++ {
			wantBooted(t, "ordinary", id, bootDisk(), limit, bootServer(id, limit))
		}
	}
	want := bootServerWith(func(s *impl.Server) {
		s.Disk = withFiles(s.Disk, "a", "other", "vot", "words", "logs", "", "g1000", "no segment", "zz", "")
	})
	wantBooted(t, "files of other names", 1, want.Disk, 5, want)
	want = bootServerWith(func(s *impl.Server) {
		s.Node.Log = logOf(2, 1, noneOf(1), noneOf(1))
		s.Node.Term, s.Node.Vote = 1, 0
		s.Disk = nodeDisk(bootShelf(), s.Node.Log, cast{1, 0})
	})
	wantBooted(t, "a log up to the Stamp, of the node's Term", 1, want.Disk, 5, want)
	longer := plainFrames(startRecord(0, 0), plainEntryText(1, commandOf(9, "gone"))) + plainLogFile(bootLog()) + plainFrame(plainEntryText(6, noneOf(3)))
	want = bootServerWith(func(s *impl.Server) { s.Disk = withFiles(s.Disk, "log", longer) })
	wantBooted(t, "a file of more frames that tells the same log", 1, want.Disk, 5, want)
}

func TestBootWithoutVotes(t *testing.T) {
	l := logOf(2, 0, noneOf(0), noneOf(0))
	man := manifestOf(numbers(3, 7), 9, 2, 0, numbers(1, 2))
	d := nodeDisk(shelfDisk(man, segmentOf(batchOf(2, set("ka", "one"))), segmentOf(batchOf(4, set("kb", "two")))), l)
	for _, file := range []string{"none", ""} {
		want := bootServerWith(func(s *impl.Server) {
			s.Node.Term, s.Node.Vote, s.Node.Log, s.Disk, s.Shelf.Man = 0, 0, l, d, man
			if file == "" {
				s.Disk = withFiles(d, "vote", "")
			}
		})
		wantBooted(t, "no votes: "+file, 1, want.Disk, 5, want)
	}
	wantBootCode(t, "a log of a Term, and no votes", 1, withoutFile(bootDisk(), "vote"), 5, 3)
	wantBootCode(t, "a log of a Term, and an empty file of votes", 1, withFiles(bootDisk(), "vote", ""), 5, 3)
}

// shelvesRefused are disks that OpenShelf has a code of, by that code; all of
// them have a log and votes.
func shelvesRefused() map[int][]impl.Disk {
	d := bootDisk()
	torn, _ := textOf(d, "g3")
	full := segmentOf(batchOfPairs(4, mapOfMany("a", 60, "")))
	refused := map[int][]impl.Disk{
		1: {diskOf("m", "x", "log", "y"), withFiles(d, letters(13), "x"), withFiles(d, "x", letters(20001)), diskOf("", "", "m", ""), fullDisk(31)},
		2: {{}, withoutFile(d, "m"), withFiles(d, "m", ""), withFiles(d, "m", "words"), withFiles(d, "m", turned(plainManifestText(ordinary()), 3, 1))},
		3: {withoutFile(d, "g3"), withoutFile(d, "g7"), withoutFile(withoutFile(d, "g7"), "g3")},
		4: {withFiles(d, "g3", torn+"x"), withFiles(d, "g3", torn[:len(torn)-1]), withFiles(d, "g7", full)},
	}
	return refused
}

func TestBootOfDisksThatAreNoShelf(t *testing.T) {
	for code, disks := range shelvesRefused() {
		for at, d := range disks {
			if _, _, was := impl.OpenShelf(d); was != code {
				t.Errorf("OpenShelf(%s) has the code %d; want %d", short(d), was, code)
			}
			why := fmt.Sprint("OpenShelf's code ", code, ", disk ", at)
			wantBootCode(t, why, 1, d, 5, 1)
			wantBootCode(t, why+", an Id that is none", 0, d, 5, 1)
			wantBootCode(t, why+", a limit that is none", 1, d, 21, 1)
			if code != 1 {
				wantBootCode(t, why+", no log", 1, withoutFile(d, "log"), 5, 1)
				wantBootCode(t, why+", words for a log", 0, withFiles(d, "log", "words"), 5, 1)
			}
		}
	}
	for why, d := range wrongDisks() {
		wantBootCode(t, why, 1, d, 5, 1)
	}
	wantBootCode(t, "no disk", 1, impl.Disk{}, 5, 1)
}

func TestBootOfDisksWithoutALog(t *testing.T) {
	d := bootDisk()
	right := plainLogFile(bootLog())
	logs := map[string]string{
		"an empty file":            "",
		"words":                    "words",
		"no S ahead":               plainFrames(plainEntryText(1, noneOf(1))),
		"a torn first frame":       right[:6],
		"a first frame turned":     turned(right, 5, 1),
		"an entry of a gap":        plainFrames(startRecord(2, 1), plainEntryText(4, noneOf(1))),
		"an entry of Start":        plainFrames(startRecord(2, 1), plainEntryText(2, noneOf(1))),
		"a Term that falls":        plainFrames(startRecord(2, 2), plainEntryText(3, noneOf(1))),
		"a Start that is too much": plainFrames(startRecord(100001, 1)),
	}
	for why, record := range oddRecords() {
		if _, _, ok := plainReadLog(right + plainFrame(record)); !ok {
			logs["a record behind: "+why] = right + plainFrame(record)
		}
	}
	if len(logs) < 30 {
		t.Errorf("no more than %d files are no logs", len(logs))
	}
	for why, file := range logs {
		wantBootCode(t, why, 1, withFiles(d, "log", file), 5, 2)
		wantBootCode(t, why+", an Id that is none", 5, withFiles(d, "log", file), 5, 2)
		wantBootCode(t, why+", a log left", 1, withFiles(d, "log", file, "log+", right), 5, 2)
		wantBootCode(t, why+", a disk to be cleaned", 1, withFiles(d, "log", file, "m+", "", "g99", ""), 5, 2)
	}
	wantBootCode(t, "no log", 1, withoutFile(d, "log"), 5, 2)
	wantBootCode(t, "no log, no limit", 1, withoutFile(d, "log"), 0, 2)
	wantBootCode(t, "no log, but a new one", 1, withFiles(withoutFile(d, "log"), "log+", right), 5, 2)
	wantBootCode(t, "no log, other names", 1, withFiles(withoutFile(d, "log"), "Log", right, "lo", right, "logg", right), 5, 2)
	shelf, _ := impl.FormatShelf(numbers(1))
	wantBootCode(t, "a shelf alone", 1, shelf, 5, 2)
}

func TestBootOfNodesThatAreNotRight(t *testing.T) {
	for _, id := range append(farNumbers(), -1, 0, 5, 6) {
		wantBootCode(t, "an Id that is none", id, bootDisk(), 5, 3)
	}
	for _, limit := range append(farNumbers(), -1, 0, 21, 22) {
		wantBootCode(t, "a limit that is none", 1, bootDisk(), limit, 3)
	}
	for _, torn := range []bool{false, true} {
		turn := func(l impl.Log, votes ...cast) impl.Disk {
			d := nodeDisk(bootShelf(), l, votes...)
			if torn {
				file, _ := textOf(d, "log")
				d = withFiles(d, "log", file+"torn", "m+", "", "vote+", "")
			}
			return d
		}
		wantBootCode(t, "a Term of the log's last", 1, turn(bootLog(), cast{3, 0}), 5, 0)
		wantBootCode(t, "a Term below the log's last", 1, turn(bootLog(), cast{2, 0}), 5, 3)
		wantBootCode(t, "a Term that fell", 1, turn(bootLog(), cast{4, 0}, cast{2, 0}), 5, 3)
		wantBootCode(t, "a log up to the Stamp", 1, turn(logOf(2, 1, noneOf(1), noneOf(1)), cast{3, 0}), 5, 0)
		wantBootCode(t, "a log that ends ahead of the Stamp", 1, turn(logOf(2, 1, noneOf(1)), cast{3, 0}), 5, 3)
		wantBootCode(t, "a log without the Base", 1, turn(logOf(3, 1, noneOf(1)), cast{3, 0}), 5, 3)
		wantBootCode(t, "a log that ends ahead of the Base", 1, turn(logOf(0, 0, noneOf(1)), cast{3, 0}), 5, 3)
		wantBootCode(t, "a log with the Base of another Term", 1, turn(logOf(0, 0, noneOf(1), noneOf(2), noneOf(2), noneOf(2)), cast{3, 0}), 5, 3)
	}
}

// wantCleaned boots a disk that is bootDisk but for what is to be cleaned.
func wantCleaned(t *testing.T, why string, d impl.Disk, raws ...impl.Raw) {
	t.Helper()
	wantBooted(t, why, 2, d, 7, bootServer(2, 7), raws...)
}

func TestBootCleansADisk(t *testing.T) {
	d := bootDisk()
	log, _ := textOf(d, "log")
	votes, _ := textOf(d, "vote")
	seg, _ := textOf(d, "g7")
	more := plainFrame(plainEntryText(7, noneOf(4)))
	for at := 1; at < len(more); at++ {
		wantCleaned(t, "a torn entry", withFiles(d, "log", log+more[:at]), put("log", log))
	}
	wantCleaned(t, "an entry with a byte turned", withFiles(d, "log", log+turned(more, 7, 1)), put("log", log))
	wantCleaned(t, "bytes behind a torn entry", withFiles(d, "log", log+more[:5]+more+more), put("log", log))
	vote := plainVote(cast{5, 1})
	for at := 1; at < len(vote); at++ {
		wantCleaned(t, "a torn vote", withFiles(d, "vote", votes+vote[:at]), put("vote", votes))
	}
	for why, record := range noVoteRecords() {
		if file := votes + plainFrame(record) + vote; len(file) <= 20000 && record != "" {
			wantCleaned(t, "a frame that is no vote: "+why, withFiles(d, "vote", file), put("vote", votes))
		}
	}
	wantCleaned(t, "a new log left", withFiles(d, "log+", ""), drop("log+"))
	wantCleaned(t, "a whole new log left", withFiles(d, "log+", log+more), drop("log+"))
	wantCleaned(t, "new votes left", withFiles(d, "vote+", ""), drop("vote+"))
	wantCleaned(t, "whole new votes left", withFiles(d, "vote+", vote), drop("vote+"))
	wantCleaned(t, "a new manifest left", withFiles(d, "m+", ""), drop("m+"))
	wantCleaned(t, "segments left", withFiles(d, "g10", "x", "g9", ""), drop("g10"), drop("g9"))
	wantCleaned(t, "a torn batch", withFiles(d, "g7", seg+"\x05"), put("g7", seg))
	wantCleaned(t, "all of these",
		withFiles(d, "log", log+"x", "log+", "new", "vote", votes+"y", "vote+", "", "m+", "", "g0", "", "g999", "", "g7", seg+"z"),
		drop("m+"), drop("g0"), drop("g999"), put("g7", seg), put("log", log), drop("log+"), put("vote", votes), drop("vote+"))
}

func TestBootOfTornVotesAlone(t *testing.T) {
	l := logOf(0, 0)
	d, _ := impl.FormatDisk(numbers(3))
	want := impl.Server{Node: impl.Node{Id: 3, Conf: numbers(3), Log: l, Limit: 1}, Disk: withFiles(d, "vote", ""), Shelf: opened(t, "formatted", d)}
	vote := plainVote(cast{1, 3})
	for at := 1; at < len(vote); at++ {
		wantBooted(t, "a torn first vote", 3, withFiles(d, "vote", vote[:at]), 1, want, put("vote", ""))
	}
	want.Disk = d
	wantBooted(t, "no votes, but new ones", 3, withFiles(d, "vote+", vote), 1, want, drop("vote+"))
}

// Each log that begins ahead of the Base, or elsewhere, is put anew.
func TestBootBeginsALogAnew(t *testing.T) {
	d := bootDisk()
	want := bootServer(2, 7)
	file := plainLogFile(bootLog())
	anew := []impl.Raw{put("log+", file), move("log+", "log")}
	for why, ahead := range map[string]impl.Log{
		"from 0 on": logOf(0, 0, append(entries(noneOf(1), noneOf(1)), bootLog().Entries...)...),
		"from 1 on": logOf(1, 1, append(entries(commandOf(1, "x")), bootLog().Entries...)...),
	} {
		told := plainLogFile(ahead)
		wantCleaned(t, why, withFiles(d, "log", told), anew...)
		wantCleaned(t, why+", torn", withFiles(d, "log", told+"torn"), anew...)
		wantCleaned(t, why+", a new one left", withFiles(d, "log", told, "log+", "left"), anew...)
		wantCleaned(t, why+", a whole new one left", withFiles(d, "log", told, "log+", file), anew...)
		wantCleaned(t, why+", and all that may be cleaned", withFiles(d, "log", told+"x", "log+", "", "m+", "", "g0", "", "vote+", ""),
			drop("m+"), drop("g0"), anew[0], anew[1], drop("vote+"))
	}
	empty := plainLogFile(logOf(2, 1))
	want.Shelf = impl.Shelf{Man: manifestOf(numbers(3), 9, 2, 1, numbers(1, 2)), Dir: spots(spot("ka", 3, 12, 3)), Stamp: 2}
	shelf := shelfDisk(want.Shelf.Man, segmentOf(batchOf(2, set("ka", "one"))))
	want.Node.Log, want.Node.Commit, want.Disk = logOf(2, 1), 2, nodeDisk(shelf, logOf(2, 1), cast{2, 1}, cast{4, 3})
	for why, other := range map[string]impl.Log{
		"none of it":                  logOf(0, 0),
		"up to ahead of the Base":     logOf(0, 0, noneOf(1)),
		"up to the Base":              logOf(0, 0, noneOf(1), noneOf(1)),
		"the Base has a lesser Term":  logOf(0, 0, noneOf(0), noneOf(0), noneOf(1)),
		"the Base has a greater Term": logOf(0, 0, noneOf(1), noneOf(2), noneOf(2)),
		"Start has another Term":      logOf(2, 0, noneOf(1), noneOf(1)),
		"Start is behind the Base":    logOf(3, 1, noneOf(1)),
		"Start is far behind":         logOf(100000, 4),
	} {
		wantBooted(t, why, 2, withFiles(want.Disk, "log", plainLogFile(other)), 7, want, put("log+", empty), move("log+", "log"))
	}
}

// A disk of as many files as may be takes no new log: the raw writes are done
// as far as they can be.
func TestBootOfFullDisks(t *testing.T) {
	d := bootDisk()
	told := plainLogFile(logOf(1, 1, append(entries(noneOf(1)), bootLog().Entries...)...))
	file := plainLogFile(bootLog())
	fill := func(d impl.Disk, n int) impl.Disk {
		for at := len(d.Files); at < n; at++ {
			d = withFiles(d, fmt.Sprint("x", at), "")
		}
		return d
	}
	anew := []impl.Raw{put("log+", file), move("log+", "log")}
	s, list, code := impl.Boot(1, fill(withFiles(d, "log", told, "vote+", ""), 30), 5)
	if code != 0 || !slices.Equal(list, append(anew, drop("vote+"))) || !sameDisk(s.Disk, fill(withFiles(d, "log", told, "vote+", ""), 30)) || impl.ServerOk(s) {
		t.Errorf("a full disk: %s, %s, %d", shortServer(s), shortRaws(list), code)
	}
	wantBoot(t, "a full disk", 1, fill(withFiles(d, "log", told), 30), 5)
	wantBoot(t, "a full disk that is cleaned first", 1, fill(withFiles(d, "log", told, "m+", "", "vote", ""), 30), 5)
	for why, ahead := range map[string]impl.Disk{"room for one": fill(withFiles(d, "log", told), 29), "a new one left": fill(withFiles(d, "log", told, "log+", ""), 30)} {
		s, list, code := impl.Boot(1, ahead, 5)
		if code != 0 || !slices.Equal(list, anew) {
			t.Errorf("%s: %s, %s, %d", why, shortServer(s), shortRaws(list), code)
		}
		wantUp(t, why, s)
	}
	many := fill(d, 30)
	many = impl.Disk{Files: slices.Clone(many.Files)}
	for at, f := range many.Files {
		if f.Name[0] == 'x' {
			many.Files[at].Name = fmt.Sprint("g", 100+at)
		}
	}
	slices.SortFunc(many.Files, func(a, b impl.File) int {
		if a.Name < b.Name {
			return -1
		}
		return 1
	})
	s, list, code = impl.Boot(1, many, 5)
	if code != 0 || len(list) != 25 || !sameDisk(s.Disk, d) {
		t.Errorf("a disk full of segments: %s, %s, %d", shortServer(s), shortRaws(list), code)
	}
	wantUp(t, "a disk full of segments", s)
}

func TestServerOkOfWhatComesUp(t *testing.T) {
	wantServer(t, "what comes up", bootServer(1, 5), true)
	wantServer(t, "zero", impl.Server{}, false)
	d, _ := impl.FormatDisk(numbers(1, 3))
	wantServer(t, "formatted", serverOn(t, 3, d), true)
	wantServer(t, "of no conf's", serverOn(t, 2, d), true)
}

func TestServerOkOfDisks(t *testing.T) {
	log, _ := textOf(bootDisk(), "log")
	for why, turn := range map[string]func(d impl.Disk) impl.Disk{
		"a torn log":      func(d impl.Disk) impl.Disk { return withFiles(d, "log", log+"x") },
		"a new log left":  func(d impl.Disk) impl.Disk { return withFiles(d, "log+", "") },
		"torn votes":      func(d impl.Disk) impl.Disk { return withFiles(d, "vote", plainVotes(cast{4, 3})+"x") },
		"new votes left":  func(d impl.Disk) impl.Disk { return withFiles(d, "vote+", "") },
		"a manifest left": func(d impl.Disk) impl.Disk { return withFiles(d, "m+", "") },
		"a segment left":  func(d impl.Disk) impl.Disk { return withFiles(d, "g1", "") },
		"no votes":        func(d impl.Disk) impl.Disk { return withoutFile(d, "vote") },
		"no log":          func(d impl.Disk) impl.Disk { return withoutFile(d, "log") },
		"no manifest":     func(d impl.Disk) impl.Disk { return withoutFile(d, "m") },
		"no segment":      func(d impl.Disk) impl.Disk { return withoutFile(d, "g7") },
		"no files":        func(d impl.Disk) impl.Disk { return impl.Disk{} },
		"another vote":    func(d impl.Disk) impl.Disk { return withFiles(d, "vote", plainVotes(cast{4, 2})) },
		"another Term":    func(d impl.Disk) impl.Disk { return withFiles(d, "vote", plainVotes(cast{5, 3})) },
		"another log":     func(d impl.Disk) impl.Disk { return withFiles(d, "log", plainLogFile(cutLog(bootLog(), 3))) },
		"a log from 1 on": func(d impl.Disk) impl.Disk {
			return withFiles(d, "log", plainLogFile(logOf(1, 1, append(entries(noneOf(1)), bootLog().Entries...)...)))
		},
		"a batch more": func(d impl.Disk) impl.Disk {
			return withFiles(d, "g7", segmentOf(batchOf(4, set("kb", "two")), batchOf(5)))
		},
		"another value":     func(d impl.Disk) impl.Disk { return withFiles(d, "g7", segmentOf(batchOf(4, set("kb", "three")))) },
		"a file that is no": func(d impl.Disk) impl.Disk { return withFiles(d, letters(13), "") },
	} {
		wantServer(t, why, bootServerWith(func(s *impl.Server) { s.Disk = turn(s.Disk) }), false)
	}
	for why, words := range map[string][]string{
		"files of other names":       {"a", "b", "lo", "", "votes", "x", "g1000", ""},
		"votes ahead":                {"vote", plainVotes(cast{100000, 0}, cast{0, 1}, cast{4, 3})},
		"a value of as many bytes":   {"g7", segmentOf(batchOf(4, set("kb", "TWO")))},
		"entries that were in place": {"log", log + plainFrames(plainEntryText(6, noneOf(2)), plainEntryText(6, noneOf(3)))},
	} {
		wantServer(t, why, bootServerWith(func(s *impl.Server) { s.Disk = withFiles(s.Disk, words...) }), true)
	}
}

func TestServerOkOfShelves(t *testing.T) {
	for why, other := range otherShelves(bootServer(1, 5).Shelf) {
		wantServer(t, why, bootServerWith(func(s *impl.Server) { s.Shelf = other }), false)
	}
}

func TestServerOkOfNodes(t *testing.T) {
	for why, turn := range map[string]func(n *impl.Node){
		"another Id, of none":       func(n *impl.Node) { n.Id = 0 },
		"an Id that is too great":   func(n *impl.Node) { n.Id = 5 },
		"a Term more":               func(n *impl.Node) { n.Term++ },
		"a Term less":               func(n *impl.Node) { n.Term-- },
		"a Vote more":               func(n *impl.Node) { n.Vote++ },
		"no Vote":                   func(n *impl.Node) { n.Vote = 0 },
		"a conf of fewer":           func(n *impl.Node) { n.Conf = numbers(1) },
		"a conf of more":            func(n *impl.Node) { n.Conf = numbers(1, 2, 3) },
		"another conf":              func(n *impl.Node) { n.Conf = numbers(1, 3) },
		"no conf":                   func(n *impl.Node) { n.Conf = nil },
		"an entry fewer":            func(n *impl.Node) { n.Log = cutLog(n.Log, 3) },
		"an entry more":             func(n *impl.Node) { n.Log.Entries = append(n.Log.Entries, noneOf(3)) },
		"another entry":             func(n *impl.Node) { n.Log.Entries[1].Data = "y" },
		"another Start":             func(n *impl.Node) { n.Log.Start = 1 },
		"another StartTerm":         func(n *impl.Node) { n.Log.StartTerm = 0 },
		"a log behind the Stamp":    func(n *impl.Node) { n.Log = logOf(4, 2, n.Log.Entries[2:]...) },
		"Commit below the Stamp":    func(n *impl.Node) { n.Commit = 3 },
		"Commit at the Base":        func(n *impl.Node) { n.Commit = 2 },
		"Commit below the Base":     func(n *impl.Node) { n.Commit = 1 },
		"Commit above the last":     func(n *impl.Node) { n.Commit = 7 },
		"no Role":                   func(n *impl.Node) { n.Role = 3 },
		"a Lead that is too great":  func(n *impl.Node) { n.Lead = 5 },
		"a Lead below 0":            func(n *impl.Node) { n.Lead = -1 },
		"a Clock below 0":           func(n *impl.Node) { n.Clock = -1 },
		"a Clock that is too great": func(n *impl.Node) { n.Clock = 21 },
		"no Limit":                  func(n *impl.Node) { n.Limit = 0 },
		"a Limit that is too great": func(n *impl.Node) { n.Limit = 21 },
		"votes of one that follows": func(n *impl.Node) { n.Votes = numbers(1) },
		"peers of one that follows": func(n *impl.Node) { n.Peers = peersOf(2) },
		"a leader without peers":    func(n *impl.Node) { n.Role = 2 },
		"Sent that is too great":    func(n *impl.Node) { n.Role, n.Peers = 2, []impl.Peer{{Id: 2, Next: 1}, {Id: 3, Next: 1, Sent: 20001}} },
	} {
		wantServer(t, why, bootServerWith(func(s *impl.Server) { turn(&s.Node) }), false)
	}
	for why, turn := range map[string]func(n *impl.Node){
		"Commit behind the Stamp": func(n *impl.Node) { n.Commit = 5 },
		"Commit at the last":      func(n *impl.Node) { n.Commit = 6 },
		"another Id":              func(n *impl.Node) { n.Id = 4 },
		"any Lead":                func(n *impl.Node) { n.Lead = 4 },
		"the greatest Clock":      func(n *impl.Node) { n.Clock = 20 },
		"the greatest Limit":      func(n *impl.Node) { n.Limit = 20 },
		"the least Limit":         func(n *impl.Node) { n.Limit = 1 },
		"one that stands":         func(n *impl.Node) { n.Role, n.Votes = 1, numbers(1, 4) },
		"one that leads": func(n *impl.Node) {
			n.Role, n.Peers = 2, []impl.Peer{{Id: 2, Next: 7, Match: 6}, {Id: 3, Next: 1, Sent: 20000}}
		},
	} {
		wantServer(t, why, bootServerWith(func(s *impl.Server) { turn(&s.Node) }), true)
	}
}

func TestServerOkOfStages(t *testing.T) {
	for size, ok := range map[int]bool{0: true, 1: true, 60: true, 19999: true, 20000: true, 20001: false, 40000: false} {
		wantServer(t, fmt.Sprint("a Stage of ", size), bootServerWith(func(s *impl.Server) { s.Stage = letters(size) }), ok)
	}
	for _, number := range append(farNumbers(), -2, -1, 0, 1, 99999, 100000, 100001, 100002) {
		ok := among(number, 0, 100000)
		wantServer(t, fmt.Sprint("StageAt ", number), bootServerWith(func(s *impl.Server) { s.StageAt = number }), ok)
		wantServer(t, fmt.Sprint("StageTerm ", number), bootServerWith(func(s *impl.Server) { s.StageTerm = number }), ok)
		wantServer(t, fmt.Sprint("both ", number), bootServerWith(func(s *impl.Server) { s.StageAt, s.StageTerm, s.Stage = number, number, "x" }), ok)
	}
}
