package tests

import (
	"fmt"
	"slices"
	"strings"
	"sync"
	"testing"

	"loop.example/g00103/impl"
)

// askingAgain is drawnEvent, but that a call is often one that came before.
func askingAgain(p *plainCluster) func(d *drawing, w impl.World) impl.Event {
	return func(d *drawing, w impl.World) impl.Event {
		e := drawnEvent(d, w)
		var asked []impl.Command
		for _, was := range p.events {
			if was.Kind == 5 && was.Command.Session > 0 {
				asked = append(asked, was.Command)
			}
		}
		if e.Kind == 5 && len(asked) > 0 && d.below(5) < 2 {
			e.Command = asked[max(0, len(asked)-1-d.below(2))]
		}
		return e
	}
}

// watchedLife tells how much there was to watch in a life.
func watchedLife(w impl.World, seen map[string]int) {
	for at, r := range w.Replies {
		again := func(other impl.Reply) bool {
			return r.Command.Session > 0 && other.Command == r.Command && other.Text == r.Text && !slices.Contains(sayNothing(), r.Text)
		}
		if slices.ContainsFunc(w.Replies[:at], again) {
			seen["replied again"]++
		}
	}
	for _, a := range w.Applied {
		for _, l := range w.Leaders {
			if l.Term <= a.Term {
				continue
			}
			if l.Log.Start >= a.Index {
				seen["later leaders that begin behind an entry"]++
			} else {
				seen["later leaders that have an entry"]++
			}
		}
	}
	stamps := map[int]bool{}
	for _, s := range w.Servers {
		shelf, _, _ := impl.OpenShelf(s.Disk)
		stamps[shelf.Stamp] = true
		if shelf.Stamp > 0 {
			seen["maps"]++
		}
	}
	seen[fmt.Sprint("lives of ", len(stamps), " stamps")]++
}

// P19, P20 and P21: whatever comes, a cluster is sound.
func TestDrawnLivesAreSound(t *testing.T) {
	seen := livesOf(t, 2400, func(t *testing.T, seed int, seen map[string]int) {
		d := &drawing{state: uint32(190000 + 13*seed)}
		nodes, conf := drawnCluster(d)
		p := newSwiftCluster(nodes, conf)
		draw := askingAgain(p)
		if seed%6 == 0 {
			draw = contested
		}
		cameUpSoon(d, p)
		for _, count := range numbers(25, 45, 60) {
			drawnLife(d, p, draw, count, seen)
			got := ranOf(nodes, conf, p.events...)
			wantFive(t, fmt.Sprint("life ", seed), got.world)
		}
		lookedAt(p.world, seen)
		watchedLife(p.world, seen)
	})
	wantSeen(t, seen, map[string]int{
		"replied again": 200, "later leaders that have an entry": 500, "later leaders that begin behind an entry": 300, "maps": 2000,
		"lives of 2 stamps": 300, "lives of 3 stamps": 50, "kind 1 number 3": 500, "kind 2 number 3": 400, "kind 5 number 3": 100, "kind 7 number 3": 100,
		"kind 3 number 0": 500, "kind 4 number 0": 500, "kind 6 number 0": 150, "kind 7 number 0": 500, "kind 8 number 0": 500, "kind 9 number 0": 500,
		"message 5 number 0": 50, "message 6 number 0": 30, "leaders": 1500, "led by 2": 100, "merged or installed": 300, "another conf": 50,
	})
}

// A call amid which the power goes, wherever that is, is asked again: it is done
// once.
func TestACallThatIsCutAndAskedAgain(t *testing.T) {
	put, swap := putOf(1, 1, "a", "x"), swapOf(1, 2, "a", "y", "x")
	before := []impl.Event{downEvent(1), upEvent(1, 1), tickEvent(1, 9), callEvent(1, openNew()), callEvent(1, put)}
	behind := []impl.Event{upEvent(1, 1), tickEvent(1, 9), callEvent(1, swap), callEvent(1, swap), callEvent(1, getOf(1, 3, "a"))}
	done := map[int]int{}
	for whole := range 4 {
		for part := range 60 {
			events := slices.Concat(before, []impl.Event{cutEvent(callEvent(1, swap), whole, part)}, behind)
			got := ranOf(1, numbers(1), events...)
			wantFive(t, "cut and asked again", got.world)
			var texts []string
			for _, r := range got.world.Replies {
				texts = append(texts, r.Text)
			}
			if !slices.Equal(texts, []string{"open 1", "put", "swapped", "swapped", "got y"}) {
				t.Errorf("cut behind %d and %d: replied are %v", whole, part, texts)
			}
			done[len(got.world.Applied)]++
		}
	}
	if len(done) != 2 || done[7] == 0 || done[8] == 0 {
		t.Errorf("so many are applied: %v", done)
	}
}

func oneAt[T any](d *drawing, list []T) (int, bool) {
	if len(list) == 0 {
		return 0, false
	}
	return d.below(len(list)), true
}

// spoiledLeaders are those of a world with one thing else.
func spoiledLeaders(d *drawing, list []impl.Leader) []impl.Leader {
	at, ok := oneAt(d, list)
	if !ok {
		return []impl.Leader{ledBare(1+d.below(4), d.below(4))}
	}
	list = slices.Clone(list)
	l := list[at]
	l.Log.Entries = slices.Clone(l.Log.Entries)
	switch d.below(6) {
	case 0:
		l.Node = 1 + d.below(4)
	case 1:
		l.Term += d.below(5) - 2
	case 2:
		l.Log.Entries = l.Log.Entries[:d.below(len(l.Log.Entries)+1)]
	case 3:
		l.Log.Start += d.below(5) - 2
	case 4:
		if place, ok := oneAt(d, l.Log.Entries); ok {
			l.Log.Entries[place] = spoiledEntry(d, l.Log.Entries[place])
		}
	case 5:
		l.Node = 1 + d.below(4)
		return slices.Insert(list, d.below(len(list)+1), l)
	}
	list[at] = l
	return list
}

func spoiledEntry(d *drawing, e impl.Entry) impl.Entry {
	switch d.below(4) {
	case 0:
		e.Term += d.below(3) - 1
	case 1:
		e.Kind = d.below(5)
	case 2:
		e.Data += d.bytes(2)
	case 3:
		e = commandEntry(e.Term, openNew())
	}
	return e
}

func spoiledApplied(d *drawing, list []impl.Applied) []impl.Applied {
	at, ok := oneAt(d, list)
	if !ok {
		return []impl.Applied{appliedOf(1, 1, d.below(3), noneOf(1))}
	}
	list = slices.Clone(list)
	a := list[at]
	switch d.below(7) {
	case 0, 1:
		a.Entry = spoiledEntry(d, a.Entry)
	case 2:
		a.Index += d.below(5) - 2
	case 3:
		a.Term += d.below(5) - 2
	case 4:
		return slices.Delete(list, at, at+1)
	case 5:
		a.Entry = spoiledEntry(d, a.Entry)
		return slices.Insert(list, d.below(len(list)+1), a)
	case 6:
		other := d.below(len(list))
		list[at] = list[other]
		list[other] = a
		return list
	}
	list[at] = a
	return list
}

func spoiledReplies(d *drawing, list []impl.Reply) []impl.Reply {
	at, ok := oneAt(d, list)
	if !ok {
		return []impl.Reply{repliedTo(getOf(1, 1, "a"), "none")}
	}
	list = slices.Clone(list)
	r := list[at]
	switch d.below(4) {
	case 0:
		r.Text = []string{"put", "none", "expired", "stale", "gap", ""}[d.below(6)]
	case 1:
		r.Command.Session = d.below(4) - 1
	case 2:
		r.Command.Seq = d.below(4)
	case 3:
		r.Text = []string{"put", "none", "expired", "stale", "gap", ""}[d.below(6)]
		return slices.Insert(list, d.below(len(list)+1), r)
	}
	list[at] = r
	return list
}

func spoiledServers(d *drawing, list []impl.Server) []impl.Server {
	list = slices.Clone(list)
	at := d.below(len(list))
	switch d.below(4) {
	case 0:
		list[at].Disk = list[d.below(len(list))].Disk
	case 1:
		if len(list[at].Disk.Files) > 0 {
			list[at].Disk = spoiledDisk(d, list[at].Disk)
		}
	case 2:
		last := list[at].Shelf
		if n := len(last.Man.Segs); n > 0 {
			name := segFile(last.Man.Segs[n-1])
			text, _ := textOf(list[at].Disk, name)
			list[at].Disk = withFiles(list[at].Disk, name, text+segmentOf(batchOf(last.Stamp+d.below(2), set("ka", d.bytes(3)))))
		}
	case 3:
		list = slices.Insert(list, at, list[d.below(len(list))])
	}
	return list
}

// spoiledWorld is one with some things else; the lists of the one that was stay.
func spoiledWorld(d *drawing, w impl.World) impl.World {
	for range 1 + d.below(2) {
		switch d.below(4) {
		case 0:
			w.Leaders = spoiledLeaders(d, w.Leaders)
		case 1:
			w.Applied = spoiledApplied(d, w.Applied)
		case 2:
			w.Replies = spoiledReplies(d, w.Replies)
		case 3:
			w.Servers = spoiledServers(d, w.Servers)
		}
	}
	return w
}

// Of worlds that may be sound or not each watcher tells what its plain rule does.
func TestDrawnWorldsSpoiled(t *testing.T) {
	seen := livesOf(t, 480, func(t *testing.T, seed int, seen map[string]int) {
		d := &drawing{state: uint32(77000 + 17*seed)}
		nodes, conf, events := richLife(d)
		w := ranOf(nodes, conf, events...).world
		for range 8 {
			spoiled := spoiledWorld(d, w)
			five := plainFive(spoiled)
			broken := brokenOf(five)
			for name, ok := range five {
				seen[fmt.Sprint(name, " ", ok)]++
			}
			wantFive(t, "spoiled", spoiled, broken...)
			seen[fmt.Sprint("broken ", len(broken))]++
			for node := range len(spoiled.Servers) + 2 {
				wantFolded(t, "spoiled", spoiled, node, plainFolded(spoiled, node))
			}
			for _, a := range spoiled.Applied {
				wantWhole(t, "spoiled", spoiled.Leaders, a, plainWhole(spoiled.Leaders, a))
			}
			for stamp := range 12 {
				if m, ok := plainFold(spoiled.Applied, stamp); ok {
					wantFold(t, "spoiled", spoiled.Applied, stamp, m)
				} else {
					wantNoFold(t, "spoiled", spoiled.Applied, stamp)
				}
			}
		}
	})
	wantSeen(t, seen, map[string]int{
		"OneLeader false": 60, "SameApplied false": 200, "Once false": 30, "Whole false": 60, "Folded false": 200, "broken 0": 500, "broken 1": 500, "broken 2": 100,
		"OneLeader true": 900, "SameApplied true": 900, "Once true": 900, "Whole true": 900, "Folded true": 900,
	})
}

// worldWithRoom has other things in the room behind each of its lists.
func worldWithRoom(w impl.World) impl.World {
	w.Up = append(append(make([]bool, 0, len(w.Up)+9), w.Up...), true, false)[:len(w.Up)]
	w.Waits = append(append(make([]impl.Wait, 0, len(w.Waits)+9), w.Waits...), impl.Wait{Node: 77})[:len(w.Waits)]
	w.Applied = append(append(make([]impl.Applied, 0, len(w.Applied)+9), w.Applied...), appliedOf(7, 7, 7, noneOf(7)))[:len(w.Applied)]
	w.Replies = append(append(make([]impl.Reply, 0, len(w.Replies)+9), w.Replies...), repliedTo(openNew(), "spare"))[:len(w.Replies)]
	servers := append(append(make([]impl.Server, 0, len(w.Servers)+9), w.Servers...), impl.Server{Stage: "spare"})
	for at, s := range w.Servers {
		servers[at] = serverWithRoom(s)
	}
	leaders := append(append(make([]impl.Leader, 0, len(w.Leaders)+9), w.Leaders...), ledBare(77, 77))
	for at, l := range w.Leaders {
		leaders[at].Log = logWithRoom(l.Log)
	}
	net := append(append(make([]impl.Message, 0, len(w.Net)+9), w.Net...), impl.Message{Kind: 77})
	for at, m := range w.Net {
		net[at] = messageWithRoom(m)
	}
	w.Servers, w.Leaders, w.Net = servers[:len(w.Servers)], leaders[:len(w.Leaders)], net[:len(w.Net)]
	return w
}

func roomOfWorld(w impl.World) string {
	text := fmt.Sprint(w.Up[:cap(w.Up)], w.Waits[:cap(w.Waits)], w.Applied[:cap(w.Applied)], w.Replies[:cap(w.Replies)])
	for _, s := range w.Servers[:cap(w.Servers)] {
		text += roomOfServer(s)
	}
	for _, l := range w.Leaders[:cap(w.Leaders)] {
		text += fmt.Sprint(l.Node, l.Term) + roomOfLog(l.Log)
	}
	for _, m := range w.Net[:cap(w.Net)] {
		text += roomOfMessage(m)
	}
	return text
}

func watchAll(w impl.World) {
	fiveOf(w)
	impl.Sound(w)
	for stamp := range 6 {
		state, _ := impl.Fold(w.Applied, stamp)
		overwritePairs(state)
	}
	for _, l := range w.Leaders {
		for index := range 9 {
			impl.EntryAt(l.Log, index)
		}
	}
	for node := range 6 {
		impl.Folded(w, node)
	}
}

func TestArgumentsOfWatchersStay(t *testing.T) {
	d := &drawing{state: 191}
	for range 60 {
		nodes, conf, events := richLife(d)
		sound := ranOf(nodes, conf, events...).world
		for _, other := range []impl.World{sound, spoiledWorld(d, sound), spoiledWorld(d, sound), handWorld(), {}} {
			w := worldWithRoom(other)
			was := roomOfWorld(w)
			watchAll(w)
			if now := roomOfWorld(w); now != was {
				t.Fatalf("the argument is another now: %s; was %s", now, was)
			}
		}
	}
}

// newApplied have new memory for each Data; these are answered too.
func newApplied(list []impl.Applied) ([]impl.Applied, []string) {
	list = slices.Clone(list)
	var words []string
	for at := range list {
		e := &list[at].Entry
		e.Data = strings.Clone(e.Data)
		words = append(words, e.Data)
	}
	return list, words
}

func TestAnswersOfWatchersAreNewMemory(t *testing.T) {
	story, states := foldStory()
	for stamp, state := range states {
		list, words := newApplied(appliedAll(story...))
		first, _ := impl.Fold(list, stamp)
		second, _ := impl.Fold(list, stamp)
		wantOwn(t, "Fold", pairTexts(first), words)
		wantOwn(t, "Fold, the other way round", words, pairTexts(first))
		wantOwn(t, "Fold, another answer", pairTexts(first), pairTexts(second))
		overwritePairs(first)
		if !slices.Equal(second, state) {
			t.Errorf("two answers of Fold share memory: %v", second)
		}
	}
	for why, l := range rightLogs() {
		l, words := newLog(l)
		for at := range l.Entries {
			e, _ := impl.EntryAt(l, l.Start+1+at)
			wantOwn(t, why+": EntryAt", []string{e.Data}, words)
			wantOwn(t, why+": EntryAt", words, []string{e.Data})
		}
	}
}

// Nothing is kept from one call to another.
func TestWatchersKeepNothing(t *testing.T) {
	d := &drawing{state: 192}
	var worlds []impl.World
	for range 20 {
		nodes, conf, events := richLife(d)
		w := ranOf(nodes, conf, events...).world
		worlds = append(worlds, w, spoiledWorld(d, w), spoiledWorld(d, w))
	}
	var all sync.WaitGroup
	for worker := range 8 {
		all.Go(func() {
			for at := range worlds {
				w := worlds[(at*7+worker)%len(worlds)]
				wantFive(t, "at once", w, brokenOf(plainFive(w))...)
			}
		})
	}
	all.Wait()
}
